/- The document's Want. -/
import Derived.Test.YthlodfahajaneaaKh
import Derived.Test.YthlodfahajaneaaKz
set_option linter.unusedSimpArgs false
set_option linter.unusedVariables false
namespace Go.Proofs.Ythlodfahajaneaa
open Go Go.RowKit LockMath Go.Shelf
section
variable {w0 w : World} {T G : Nat} {As : List (Option Addr × Nat)} {n : Int} {Q : List (List Int)}
theorem IOwn.spot {B : Nat} {u : World} {A : Option Addr} {c k : Nat} {xs : List Int} (h : IOwn B u A c xs) (hk : k < xs.length) : ∃ g, A = some ⟨g, 0, none⟩ ∧ u.cell? ⟨g, k, none⟩ = some (.int .i64 (xs.getD k 0)) := by
  obtain ⟨ad, e, hc⟩ := h.cel.int hk
  obtain ⟨_, _, _, h4⟩ := h.1
  rcases h4 with ⟨h4, _⟩ | ⟨g, cur, h4, hg, _⟩
  · rw [h4] at e; cases e
  · rw [h4] at e
    injection e with e
    subst e
    rw [add_zero_block] at hc
    exact ⟨g, h4, hc⟩
theorem ni_len (l : List Nat) : (ni l).length = l.length := by simp [ni]
theorem ni_get (l : List Nat) (k : Nat) (h : k < l.length) : (ni l).getD k 0 = ((l.getD k 0 : Nat) : Int) := by
  simp [ni, List.getD_eq_getElem?_getD, List.getElem?_map, List.getElem?_eq_getElem h]
theorem holds_len (Q : List (List Int)) (p : Int) : (holdsL Q p).length ≤ Q.length := by
  unfold holdsL
  exact Nat.le_trans (List.length_filter_le _ _) (by rw [List.length_range]; exact Nat.le_refl _)
theorem holds_lt {p : Int} {k : Nat} (h : k < (holdsL Q p).length) : (holdsL Q p).getD k 0 < Q.length ∧ Hold Q p ((holdsL Q p).getD k 0) := by
  rw [List.getD_eq_getElem?_getD, List.getElem?_eq_getElem h, Option.getD_some]
  have := mem_holds.1 (List.getElem_mem h)
  exact ⟨this.lt, this⟩
/-- What Want leaves. -/
def RWantP (w0 w : World) (T G : Nat) (As : List (Option Addr × Nat)) (n : Int) (b : Bool) (er : Int) (Q' : List (List Int)) (e : Ending) (w' : World) : Prop :=
  e = .returned (.tuple #[.bool b, .int .i64 er]) ∧ ∃ As', Rb w0 w' T G As' n Q' ∧ Tn w w' T G As As'
theorem rwant_bad (h : Rb w0 w T G As n Q) (p id : Int) (ho : okB Q n p id = false) :
    Calls Try.prog 14 #[.pointer (some ⟨T, 0, none⟩), .int .i64 p, .int .i64 id] w fun e w' => e = .returned (.tuple #[.bool false, .int .i64 2]) ∧ w = w' := by
  rw [ok_parts] at ho
  have CH := Lib.hid (rhas_calls h p)
  have y1 := h.c0
  have hm := h.nm.l1
  cases hp : hasP n p with
  | false =>
    rw [hp] at CH
    go_enter Try.func14, Try.ntmps14
    go_wp2_with (go_at_call 25; refine CH.out.mono ?_; rintro e w' ⟨rfl, rfl⟩)
    go_ret2
    exact ⟨rfl, rfl⟩
  | true =>
    rw [hp, Bool.true_and] at ho
    rw [hp] at CH
    have ho := of_decide_eq_false ho
    generalize Q.length = m at *
    by_cases h0 : id < 0
    · go_enter Try.func14, Try.ntmps14
      go_wp2_with (go_at_call 25; refine CH.out.mono ?_; rintro e w' ⟨rfl, rfl⟩)
      go_ret2
      exact ⟨rfl, rfl⟩
    · have h1 : (m : Int) ≤ id := by omega
      clear ho
      go_enter Try.func14, Try.ntmps14
      go_wp2_with (go_at_call 25; refine CH.out.mono ?_; rintro e w' ⟨rfl, rfl⟩)
      go_ret2
      exact ⟨rfl, rfl⟩
theorem rwant_held (h : Rb w0 w T G As n Q) (p : Int) (i : Nat) (hp : 0 ≤ p ∧ p < n) (hi : i < Q.length) (hh : Hold Q p i) :
    Calls Try.prog 14 #[.pointer (some ⟨T, 0, none⟩), .int .i64 p, .int .i64 (i : Int)] w fun e w' => e = .returned (.tuple #[.bool true, .int .i64 0]) ∧ Below w.heap.size w w' := by
  have HT := Lib.hid h
  have CH := Lib.hid (rhas_calls h p)
  have CO := Lib.hid (rholds_calls h p)
  have HIQ := Lib.hid hi
  have hm := h.nm.l1
  have y1 := h.c0
  rw [show hasP n p = true by unfold hasP; exact decide_eq_true hp] at CH
  obtain ⟨m, hM⟩ : ∃ m, Q.length = m := ⟨_, rfl⟩
  have HM := Lib.hid hM
  have him : (i : Int) < (m : Int) := by omega
  have hi2 : i < m := by omega
  rw [hM] at hm y1
  obtain ⟨N, hN⟩ : ∃ N, (ni (holdsL Q p)).length = N := ⟨_, rfl⟩
  have HN := Lib.hid hN
  have hN128 : N ≤ 128 := by
    have := holds_len Q p
    rw [ni_len] at hN
    omega
  have HH := Lib.hid hh
  clear h hi hh hM hN
  go_enter Try.func14, Try.ntmps14
  go_wp2_with (first | (go_at_call 25; refine CH.out.mono ?_; rintro e w' ⟨rfl, rfl⟩) | (go_at_call 29; refine CO.out.mono ?_; rintro e wB ⟨R, cr, rfl, hO, hbB⟩; replace hO := Lib.hid hO; replace hbB := Lib.hid hbB; rw [HN.out]))
  go_loopg [9] N (fun g s9 wx => ∃ k : Nat, k + g = N ∧ s9 = .int .i64 k ∧ Hid (∀ j, j < k → (ni (holdsL Q p)).getD j 0 ≠ (i : Int)) ∧ wB = wx)
  case atStart => exact ⟨0, by omega, rfl, Lib.hid (fun j hj => absurd hj (Nat.not_lt_zero _)), rfl⟩
  case round =>
    obtain ⟨k, hkg, rfl, hK, rfl⟩ := hrel
    cases gk with
    | succ g =>
      have hkN : k < N := by omega
      have hkN2 : (k : Int) < (N : Int) := by omega
      obtain ⟨gb, rfl, yc⟩ := hO.out.spot (k := k) (by rw [HN.out]; exact hkN)
      obtain ⟨x, hx⟩ : ∃ x, (ni (holdsL Q p)).getD k 0 = x := ⟨_, rfl⟩
      have HX := Lib.hid hx
      rw [hx] at yc
      clear hx
      by_cases hxp : x = (i : Int)
      · subst hxp
        go_wp2_with (fail)
        go_ret2
        exact ⟨rfl, hbB.out⟩
      · have hxp2 : (x == (i : Int)) = false := by rw [beq_eq_false_iff_ne]; exact hxp
        have hK2 : Hid (∀ j, j < k + 1 → (ni (holdsL Q p)).getD j 0 ≠ (i : Int)) := Lib.hid (fun j hj => by
          rcases Nat.lt_or_ge j k with h1 | h1
          · exact hK.out j h1
          · obtain rfl : j = k := by omega
            rw [HX.out]
            exact hxp)
        clear hxp
        go_wp2_with (fail)
        go_roundg g
        case measure => omega
        case rel => exact ⟨k + 1, by omega, by go_num, hK2, rfl⟩
    | zero =>
      obtain rfl : N = k := by omega
      exfalso
      obtain ⟨j, hj, e⟩ := List.getElem_of_mem (mem_holds.2 HH.out)
      have hjn : j < (ni (holdsL Q p)).length := by rw [ni_len]; exact hj
      refine hK.out j (by rw [← HN.out]; exact hjn) ?_
      rw [ni_get _ _ hj, List.getD_eq_getElem?_getD, List.getElem?_eq_getElem hj, Option.getD_some, e]
theorem rwant_else (h : Rb w0 w T G As n Q) (hw0 : w0.heap.size ≤ w.heap.size) (p : Int) (i : Nat) (hp : 0 ≤ p ∧ p < n) (hi : i < Q.length) (hh : ¬ Hold Q p i) (j : Nat) (hj : waitsF Q p = some j) (hne : j ≠ i) :
    Calls Try.prog 14 #[.pointer (some ⟨T, 0, none⟩), .int .i64 p, .int .i64 (i : Int)] w fun e w' => e = .returned (.tuple #[.bool false, .int .i64 6]) ∧ Below w.heap.size w w' := by
  have HT := Lib.hid h
  have CH := Lib.hid (rhas_calls h p)
  have CO := Lib.hid (rholds_calls h p)
  have HIQ := Lib.hid hi
  have hm := h.nm.l1
  have y1 := h.c0
  rw [show hasP n p = true by unfold hasP; exact decide_eq_true hp] at CH
  obtain ⟨m, hM⟩ : ∃ m, Q.length = m := ⟨_, rfl⟩
  have HM := Lib.hid hM
  have him : (i : Int) < (m : Int) := by omega
  have hi2 : i < m := by omega
  rw [hM] at hm y1
  obtain ⟨N, hN⟩ : ∃ N, (ni (holdsL Q p)).length = N := ⟨_, rfl⟩
  have HN := Lib.hid hN
  have hN128 : N ≤ 128 := by
    have := holds_len Q p
    rw [ni_len] at hN
    omega
  have HH := Lib.hid hh
  have HJ := Lib.hid hj
  have hne1 : ((j : Int) != (i : Int)) = true := by rw [bne_iff_ne]; omega
  have hne2 : (j != i) = true := by rw [bne_iff_ne]; exact hne
  clear hj
  clear h hi hh hM hN
  go_enter Try.func14, Try.ntmps14
  go_wp2_with (first | (go_at_call 25; refine CH.out.mono ?_; rintro e w' ⟨rfl, rfl⟩) | (go_at_call 29; refine CO.out.mono ?_; rintro e wB ⟨R, cr, rfl, hO, hbB⟩; replace hO := Lib.hid hO; replace hbB := Lib.hid hbB; rw [HN.out]))
  go_loopg [9] N (fun g s9 wx => ∃ k : Nat, k + g = N ∧ s9 = .int .i64 k ∧ Hid (∀ j, j < k → (ni (holdsL Q p)).getD j 0 ≠ (i : Int)) ∧ wB = wx)
  case atStart => exact ⟨0, by omega, rfl, Lib.hid (fun j hj => absurd hj (Nat.not_lt_zero _)), rfl⟩
  case round =>
    obtain ⟨k, hkg, rfl, hK, rfl⟩ := hrel
    cases gk with
    | succ g =>
      have hkN : k < N := by omega
      have hkN2 : (k : Int) < (N : Int) := by omega
      obtain ⟨gb, rfl, yc⟩ := hO.out.spot (k := k) (by rw [HN.out]; exact hkN)
      obtain ⟨x, hx⟩ : ∃ x, (ni (holdsL Q p)).getD k 0 = x := ⟨_, rfl⟩
      have HX := Lib.hid hx
      rw [hx] at yc
      clear hx
      have hxp : x ≠ (i : Int) := fun e => by
        have h1 := holds_lt (Q := Q) (p := p) (k := k) (by have := HN.out; rw [ni_len] at this; omega)
        have h2 := HX.out
        rw [ni_get _ _ (by have := HN.out; rw [ni_len] at this; omega), e] at h2
        have h3 : (holdsL Q p).getD k 0 = i := by omega
        rw [h3] at h1
        exact HH.out h1.2
      have hxp2 : (x == (i : Int)) = false := by rw [beq_eq_false_iff_ne]; exact hxp
      have hK2 : Hid (∀ j, j < k + 1 → (ni (holdsL Q p)).getD j 0 ≠ (i : Int)) := Lib.hid (fun j hj => by
        rcases Nat.lt_or_ge j k with h1 | h1
        · exact hK.out j h1
        · obtain rfl : j = k := by omega
          rw [HX.out]
          exact hxp)
      clear hxp
      go_wp2_with (fail)
      go_roundg g
      case measure => omega
      case rel => exact ⟨k + 1, by omega, by go_num, hK2, rfl⟩
    | zero =>
      obtain rfl : N = k := by omega
      have HTW := Lib.hid (HT.out.below hbB.out)
      have CW := Lib.hid (rwaits_calls HTW.out p)
      have y1 := HTW.out.c0
      rw [HM.out] at y1
      unfold twoN at CW
      rw [HJ.out] at CW
      go_wp2_with (go_at_call 30; refine CW.out.mono ?_; rintro e w' ⟨rfl, rfl⟩)
      go_ret2
      exact ⟨rfl, hbB.out⟩
theorem rwant_gr0 (h : Rb w0 w T G As n Q) (hw0 : w0.heap.size ≤ w.heap.size) (p : Int) (i : Nat) (hp : 0 ≤ p ∧ p < n) (hi : i < Q.length) (hh : ¬ Hold Q p i) (hj : waitsF Q p = none) (hg : grB Q p i = true) :
    Calls Try.prog 14 #[.pointer (some ⟨T, 0, none⟩), .int .i64 p, .int .i64 (i : Int)] w fun e w' => e = .returned (.tuple #[.bool false, .int .i64 6]) ∧ Below w.heap.size w w' := by
  have HT := Lib.hid h
  have CH := Lib.hid (rhas_calls h p)
  have CO := Lib.hid (rholds_calls h p)
  have HIQ := Lib.hid hi
  have hm := h.nm.l1
  have y1 := h.c0
  rw [show hasP n p = true by unfold hasP; exact decide_eq_true hp] at CH
  obtain ⟨m, hM⟩ : ∃ m, Q.length = m := ⟨_, rfl⟩
  have HM := Lib.hid hM
  have him : (i : Int) < (m : Int) := by omega
  have hi2 : i < m := by omega
  rw [hM] at hm y1
  obtain ⟨N, hN⟩ : ∃ N, (ni (holdsL Q p)).length = N := ⟨_, rfl⟩
  have HN := Lib.hid hN
  have hN128 : N ≤ 128 := by
    have := holds_len Q p
    rw [ni_len] at hN
    omega
  have HH := Lib.hid hh
  have HJ := Lib.hid hj
  clear hj
  have HGR := Lib.hid hg
  have HLAST : Hid (∀ k, N = k + 1 → grB Q p i = decide (((i : Nat) : Int) < (ni (holdsL Q p)).getD k 0)) := Lib.hid (fun k hk => by
    have h1 : (holdsL Q p).length = k + 1 := by rw [ni_len] at hN; omega
    rw [gr_last h1, ni_get _ _ (by omega), decide_eq_decide]
    omega)
  have hN0 : N ≠ 0 := fun e => by
    rw [gr_none (List.eq_nil_of_length_eq_zero (by rw [ni_len] at hN; omega))] at hg
    cases hg
  clear hg
  clear h hi hh hM hN
  go_enter Try.func14, Try.ntmps14
  go_wp2_with (first | (go_at_call 25; refine CH.out.mono ?_; rintro e w' ⟨rfl, rfl⟩) | (go_at_call 29; refine CO.out.mono ?_; rintro e wB ⟨R, cr, rfl, hO, hbB⟩; replace hO := Lib.hid hO; replace hbB := Lib.hid hbB; rw [HN.out]))
  go_loopg [9] N (fun g s9 wx => ∃ k : Nat, k + g = N ∧ s9 = .int .i64 k ∧ Hid (∀ j, j < k → (ni (holdsL Q p)).getD j 0 ≠ (i : Int)) ∧ wB = wx)
  case atStart => exact ⟨0, by omega, rfl, Lib.hid (fun j hj => absurd hj (Nat.not_lt_zero _)), rfl⟩
  case round =>
    obtain ⟨k, hkg, rfl, hK, rfl⟩ := hrel
    cases gk with
    | succ g =>
      have hkN : k < N := by omega
      have hkN2 : (k : Int) < (N : Int) := by omega
      obtain ⟨gb, rfl, yc⟩ := hO.out.spot (k := k) (by rw [HN.out]; exact hkN)
      obtain ⟨x, hx⟩ : ∃ x, (ni (holdsL Q p)).getD k 0 = x := ⟨_, rfl⟩
      have HX := Lib.hid hx
      rw [hx] at yc
      clear hx
      have hxp : x ≠ (i : Int) := fun e => by
        have h1 := holds_lt (Q := Q) (p := p) (k := k) (by have := HN.out; rw [ni_len] at this; omega)
        have h2 := HX.out
        rw [ni_get _ _ (by have := HN.out; rw [ni_len] at this; omega), e] at h2
        have h3 : (holdsL Q p).getD k 0 = i := by omega
        rw [h3] at h1
        exact HH.out h1.2
      have hxp2 : (x == (i : Int)) = false := by rw [beq_eq_false_iff_ne]; exact hxp
      have hK2 : Hid (∀ j, j < k + 1 → (ni (holdsL Q p)).getD j 0 ≠ (i : Int)) := Lib.hid (fun j hj => by
        rcases Nat.lt_or_ge j k with h1 | h1
        · exact hK.out j h1
        · obtain rfl : j = k := by omega
          rw [HX.out]
          exact hxp)
      clear hxp
      go_wp2_with (fail)
      go_roundg g
      case measure => omega
      case rel => exact ⟨k + 1, by omega, by go_num, hK2, rfl⟩
    | zero =>
      obtain rfl : N = k := by omega
      have HTW := Lib.hid (HT.out.below hbB.out)
      have CW := Lib.hid (rwaits_calls HTW.out p)
      have y1 := HTW.out.c0
      rw [HM.out] at y1
      unfold twoN at CW
      rw [HJ.out] at CW
      obtain ⟨N', rfl⟩ : ∃ N', N = N' + 1 := ⟨N - 1, by omega⟩
      obtain ⟨gl, hgl, yl⟩ := hO.out.spot (k := N') (by rw [HN.out]; omega)
      have hl1 := HLAST.out N' rfl
      rw [HGR.out] at hl1
      obtain ⟨z, hz⟩ : ∃ z, (ni (holdsL Q p)).getD N' 0 = z := ⟨_, rfl⟩
      rw [hz] at yl hl1
      subst hgl
      have hl2 := of_decide_eq_true hl1.symm
      clear hz hl1
      have hN1 : ((N' + 1 : Nat) : Int) - 1 = (N' : Int) := by omega
      have hN3 : (0 : Int) < ((N' + 1 : Nat) : Int) := by omega
      go_wp2_with (go_at_call 30; refine CW.out.mono ?_; rintro e w' ⟨rfl, rfl⟩)
      go_ret2
      exact ⟨rfl, hbB.out⟩
theorem rwant_gr1 (h : Rb w0 w T G As n Q) (hw0 : w0.heap.size ≤ w.heap.size) (p : Int) (i : Nat) (hp : 0 ≤ p ∧ p < n) (hi : i < Q.length) (hh : ¬ Hold Q p i) (hj : waitsF Q p = some i) (hg : grB Q p i = true) :
    Calls Try.prog 14 #[.pointer (some ⟨T, 0, none⟩), .int .i64 p, .int .i64 (i : Int)] w fun e w' => e = .returned (.tuple #[.bool false, .int .i64 6]) ∧ Below w.heap.size w w' := by
  have HT := Lib.hid h
  have CH := Lib.hid (rhas_calls h p)
  have CO := Lib.hid (rholds_calls h p)
  have HIQ := Lib.hid hi
  have hm := h.nm.l1
  have y1 := h.c0
  rw [show hasP n p = true by unfold hasP; exact decide_eq_true hp] at CH
  obtain ⟨m, hM⟩ : ∃ m, Q.length = m := ⟨_, rfl⟩
  have HM := Lib.hid hM
  have him : (i : Int) < (m : Int) := by omega
  have hi2 : i < m := by omega
  rw [hM] at hm y1
  obtain ⟨N, hN⟩ : ∃ N, (ni (holdsL Q p)).length = N := ⟨_, rfl⟩
  have HN := Lib.hid hN
  have hN128 : N ≤ 128 := by
    have := holds_len Q p
    rw [ni_len] at hN
    omega
  have HH := Lib.hid hh
  have HJ := Lib.hid hj
  clear hj
  have HGR := Lib.hid hg
  have HLAST : Hid (∀ k, N = k + 1 → grB Q p i = decide (((i : Nat) : Int) < (ni (holdsL Q p)).getD k 0)) := Lib.hid (fun k hk => by
    have h1 : (holdsL Q p).length = k + 1 := by rw [ni_len] at hN; omega
    rw [gr_last h1, ni_get _ _ (by omega), decide_eq_decide]
    omega)
  have hN0 : N ≠ 0 := fun e => by
    rw [gr_none (List.eq_nil_of_length_eq_zero (by rw [ni_len] at hN; omega))] at hg
    cases hg
  clear hg
  clear h hi hh hM hN
  go_enter Try.func14, Try.ntmps14
  go_wp2_with (first | (go_at_call 25; refine CH.out.mono ?_; rintro e w' ⟨rfl, rfl⟩) | (go_at_call 29; refine CO.out.mono ?_; rintro e wB ⟨R, cr, rfl, hO, hbB⟩; replace hO := Lib.hid hO; replace hbB := Lib.hid hbB; rw [HN.out]))
  go_loopg [9] N (fun g s9 wx => ∃ k : Nat, k + g = N ∧ s9 = .int .i64 k ∧ Hid (∀ j, j < k → (ni (holdsL Q p)).getD j 0 ≠ (i : Int)) ∧ wB = wx)
  case atStart => exact ⟨0, by omega, rfl, Lib.hid (fun j hj => absurd hj (Nat.not_lt_zero _)), rfl⟩
  case round =>
    obtain ⟨k, hkg, rfl, hK, rfl⟩ := hrel
    cases gk with
    | succ g =>
      have hkN : k < N := by omega
      have hkN2 : (k : Int) < (N : Int) := by omega
      obtain ⟨gb, rfl, yc⟩ := hO.out.spot (k := k) (by rw [HN.out]; exact hkN)
      obtain ⟨x, hx⟩ : ∃ x, (ni (holdsL Q p)).getD k 0 = x := ⟨_, rfl⟩
      have HX := Lib.hid hx
      rw [hx] at yc
      clear hx
      have hxp : x ≠ (i : Int) := fun e => by
        have h1 := holds_lt (Q := Q) (p := p) (k := k) (by have := HN.out; rw [ni_len] at this; omega)
        have h2 := HX.out
        rw [ni_get _ _ (by have := HN.out; rw [ni_len] at this; omega), e] at h2
        have h3 : (holdsL Q p).getD k 0 = i := by omega
        rw [h3] at h1
        exact HH.out h1.2
      have hxp2 : (x == (i : Int)) = false := by rw [beq_eq_false_iff_ne]; exact hxp
      have hK2 : Hid (∀ j, j < k + 1 → (ni (holdsL Q p)).getD j 0 ≠ (i : Int)) := Lib.hid (fun j hj => by
        rcases Nat.lt_or_ge j k with h1 | h1
        · exact hK.out j h1
        · obtain rfl : j = k := by omega
          rw [HX.out]
          exact hxp)
      clear hxp
      go_wp2_with (fail)
      go_roundg g
      case measure => omega
      case rel => exact ⟨k + 1, by omega, by go_num, hK2, rfl⟩
    | zero =>
      obtain rfl : N = k := by omega
      have HTW := Lib.hid (HT.out.below hbB.out)
      have CW := Lib.hid (rwaits_calls HTW.out p)
      have y1 := HTW.out.c0
      rw [HM.out] at y1
      unfold twoN at CW
      rw [HJ.out] at CW
      obtain ⟨N', rfl⟩ : ∃ N', N = N' + 1 := ⟨N - 1, by omega⟩
      obtain ⟨gl, hgl, yl⟩ := hO.out.spot (k := N') (by rw [HN.out]; omega)
      have hl1 := HLAST.out N' rfl
      rw [HGR.out] at hl1
      obtain ⟨z, hz⟩ : ∃ z, (ni (holdsL Q p)).getD N' 0 = z := ⟨_, rfl⟩
      rw [hz] at yl hl1
      subst hgl
      have hl2 := of_decide_eq_true hl1.symm
      clear hz hl1
      have hN1 : ((N' + 1 : Nat) : Int) - 1 = (N' : Int) := by omega
      have hN3 : (0 : Int) < ((N' + 1 : Nat) : Int) := by omega
      go_wp2_with (go_at_call 30; refine CW.out.mono ?_; rintro e w' ⟨rfl, rfl⟩)
      go_ret2
      exact ⟨rfl, hbB.out⟩
theorem rwant_waits (h : Rb w0 w T G As n Q) (hw0 : w0.heap.size ≤ w.heap.size) (p : Int) (i : Nat) (hp : 0 ≤ p ∧ p < n) (hi : i < Q.length) (hh : ¬ Hold Q p i) (hj : waitsF Q p = some i) (hg : grB Q p i = false) :
    Calls Try.prog 14 #[.pointer (some ⟨T, 0, none⟩), .int .i64 p, .int .i64 (i : Int)] w fun e w' => e = .returned (.tuple #[.bool false, .int .i64 0]) ∧ Below w.heap.size w w' := by
  have HT := Lib.hid h
  have CH := Lib.hid (rhas_calls h p)
  have CO := Lib.hid (rholds_calls h p)
  have HIQ := Lib.hid hi
  have hm := h.nm.l1
  have y1 := h.c0
  rw [show hasP n p = true by unfold hasP; exact decide_eq_true hp] at CH
  obtain ⟨m, hM⟩ : ∃ m, Q.length = m := ⟨_, rfl⟩
  have HM := Lib.hid hM
  have him : (i : Int) < (m : Int) := by omega
  have hi2 : i < m := by omega
  rw [hM] at hm y1
  obtain ⟨N, hN⟩ : ∃ N, (ni (holdsL Q p)).length = N := ⟨_, rfl⟩
  have HN := Lib.hid hN
  have hN128 : N ≤ 128 := by
    have := holds_len Q p
    rw [ni_len] at hN
    omega
  have HH := Lib.hid hh
  have HGR := Lib.hid hg
  have HLAST : Hid (∀ k, N = k + 1 → grB Q p i = decide (((i : Nat) : Int) < (ni (holdsL Q p)).getD k 0)) := Lib.hid (fun k hk => by
    have h1 : (holdsL Q p).length = k + 1 := by rw [ni_len] at hN; omega
    rw [gr_last h1, ni_get _ _ (by omega), decide_eq_decide]
    omega)
  have HJ := Lib.hid hj
  clear hj hg
  clear h hi hh hM hN
  go_enter Try.func14, Try.ntmps14
  go_wp2_with (first | (go_at_call 25; refine CH.out.mono ?_; rintro e w' ⟨rfl, rfl⟩) | (go_at_call 29; refine CO.out.mono ?_; rintro e wB ⟨R, cr, rfl, hO, hbB⟩; replace hO := Lib.hid hO; replace hbB := Lib.hid hbB; rw [HN.out]))
  go_loopg [9] N (fun g s9 wx => ∃ k : Nat, k + g = N ∧ s9 = .int .i64 k ∧ Hid (∀ j, j < k → (ni (holdsL Q p)).getD j 0 ≠ (i : Int)) ∧ wB = wx)
  case atStart => exact ⟨0, by omega, rfl, Lib.hid (fun j hj => absurd hj (Nat.not_lt_zero _)), rfl⟩
  case round =>
    obtain ⟨k, hkg, rfl, hK, rfl⟩ := hrel
    cases gk with
    | succ g =>
      have hkN : k < N := by omega
      have hkN2 : (k : Int) < (N : Int) := by omega
      obtain ⟨gb, rfl, yc⟩ := hO.out.spot (k := k) (by rw [HN.out]; exact hkN)
      obtain ⟨x, hx⟩ : ∃ x, (ni (holdsL Q p)).getD k 0 = x := ⟨_, rfl⟩
      have HX := Lib.hid hx
      rw [hx] at yc
      clear hx
      have hxp : x ≠ (i : Int) := fun e => by
        have h1 := holds_lt (Q := Q) (p := p) (k := k) (by have := HN.out; rw [ni_len] at this; omega)
        have h2 := HX.out
        rw [ni_get _ _ (by have := HN.out; rw [ni_len] at this; omega), e] at h2
        have h3 : (holdsL Q p).getD k 0 = i := by omega
        rw [h3] at h1
        exact HH.out h1.2
      have hxp2 : (x == (i : Int)) = false := by rw [beq_eq_false_iff_ne]; exact hxp
      have hK2 : Hid (∀ j, j < k + 1 → (ni (holdsL Q p)).getD j 0 ≠ (i : Int)) := Lib.hid (fun j hj => by
        rcases Nat.lt_or_ge j k with h1 | h1
        · exact hK.out j h1
        · obtain rfl : j = k := by omega
          rw [HX.out]
          exact hxp)
      clear hxp
      go_wp2_with (fail)
      go_roundg g
      case measure => omega
      case rel => exact ⟨k + 1, by omega, by go_num, hK2, rfl⟩
    | zero =>
      obtain rfl : N = k := by omega
      have HTW := Lib.hid (HT.out.below hbB.out)
      have CW := Lib.hid (rwaits_calls HTW.out p)
      have y1 := HTW.out.c0
      rw [HM.out] at y1
      unfold twoN at CW
      rw [HJ.out] at CW
      by_cases hN0 : N = 0
      · subst hN0
        go_wp2_with (go_at_call 30; refine CW.out.mono ?_; rintro e w' ⟨rfl, rfl⟩)
        go_ret2
        exact ⟨rfl, hbB.out⟩
      · obtain ⟨N', rfl⟩ : ∃ N', N = N' + 1 := ⟨N - 1, by omega⟩
        obtain ⟨gl, hgl, yl⟩ := hO.out.spot (k := N') (by rw [HN.out]; omega)
        have hl1 := HLAST.out N' rfl
        rw [HGR.out] at hl1
        obtain ⟨z, hz⟩ : ∃ z, (ni (holdsL Q p)).getD N' 0 = z := ⟨_, rfl⟩
        rw [hz] at yl hl1
        subst hgl
        have hl2 := of_decide_eq_false hl1.symm
        clear hz hl1
        have hN1 : ((N' + 1 : Nat) : Int) - 1 = (N' : Int) := by omega
        have hN3 : (0 : Int) < ((N' + 1 : Nat) : Int) := by omega
        go_wp2_with (go_at_call 30; refine CW.out.mono ?_; rintro e w' ⟨rfl, rfl⟩)
        go_ret2
        exact ⟨rfl, hbB.out⟩
theorem rwant_new (h : Rb w0 w T G As n Q) (hw0 : w0.heap.size ≤ w.heap.size) (p : Int) (i : Nat) (hp : 0 ≤ p ∧ p < n) (hi : i < Q.length) (hh : ¬ Hold Q p i) (hj : waitsF Q p = none) (hg : grB Q p i = false) :
    Calls Try.prog 14 #[.pointer (some ⟨T, 0, none⟩), .int .i64 p, .int .i64 (i : Int)] w (RWantP w0 w T G As n (decide (qu Q i = [])) 0 (Q.set i (qu Q i ++ [p]))) := by
  have HT := Lib.hid h
  have CH := Lib.hid (rhas_calls h p)
  have CO := Lib.hid (rholds_calls h p)
  have HIQ := Lib.hid hi
  have hm := h.nm.l1
  have y1 := h.c0
  rw [show hasP n p = true by unfold hasP; exact decide_eq_true hp] at CH
  obtain ⟨m, hM⟩ : ∃ m, Q.length = m := ⟨_, rfl⟩
  have HM := Lib.hid hM
  have him : (i : Int) < (m : Int) := by omega
  have hi2 : i < m := by omega
  rw [hM] at hm y1
  obtain ⟨N, hN⟩ : ∃ N, (ni (holdsL Q p)).length = N := ⟨_, rfl⟩
  have HN := Lib.hid hN
  have hN128 : N ≤ 128 := by
    have := holds_len Q p
    rw [ni_len] at hN
    omega
  have HH := Lib.hid hh
  have HW0 := Lib.hid hw0
  have HNM : Hid (Nm n (Q.set i (qu Q i ++ [p]))) := Lib.hid (by
    have h1 := h.nm.want p (i : Int)
    have hb : (elseB Q p i || grB Q p i) = false := by rw [hg]; unfold elseB; rw [hj]; rfl
    have h2 := wait_some h.nm.inv hh hb
    rw [hj] at h2
    have hw : p ∉ qu Q i := of_decide_eq_false h2.symm
    rwa [want_appends hp (by omega) hh hb hw] at h1)
  obtain ⟨i0, hi0, hz0, hs0, hb0⟩ := info_parts i64_info
  have HI := Lib.hid hi0
  have HZ := Lib.hid hz0
  have HS := Lib.hid hs0
  have HB := Lib.hid hb0
  have hl16 := h.nm.len i
  obtain ⟨L, hL⟩ : ∃ L, (qu Q i).length = L := ⟨_, rfl⟩
  have HL := Lib.hid hL
  rw [hL] at hl16
  obtain ⟨A, hA⟩ : ∃ A, qA As i = A := ⟨_, rfl⟩
  have HA := Lib.hid hA
  obtain ⟨C, hC⟩ : ∃ C, qC As i = C := ⟨_, rfl⟩
  have HC := Lib.hid hC
  clear hi0 hz0 hs0 hb0 hL hA hC
  have HGR := Lib.hid hg
  have HLAST : Hid (∀ k, N = k + 1 → grB Q p i = decide (((i : Nat) : Int) < (ni (holdsL Q p)).getD k 0)) := Lib.hid (fun k hk => by
    have h1 : (holdsL Q p).length = k + 1 := by rw [ni_len] at hN; omega
    rw [gr_last h1, ni_get _ _ (by omega), decide_eq_decide]
    omega)
  have HJ := Lib.hid hj
  clear hj hg
  clear h hi hh hM hN
  go_enter Try.func14, Try.ntmps14
  go_wp2_with (first | (go_at_call 25; refine CH.out.mono ?_; rintro e w' ⟨rfl, rfl⟩) | (go_at_call 29; refine CO.out.mono ?_; rintro e wB ⟨R, cr, rfl, hO, hbB⟩; replace hO := Lib.hid hO; replace hbB := Lib.hid hbB; rw [HN.out]))
  go_loopg [9] N (fun g s9 wx => ∃ k : Nat, k + g = N ∧ s9 = .int .i64 k ∧ Hid (∀ j, j < k → (ni (holdsL Q p)).getD j 0 ≠ (i : Int)) ∧ wB = wx)
  case atStart => exact ⟨0, by omega, rfl, Lib.hid (fun j hj => absurd hj (Nat.not_lt_zero _)), rfl⟩
  case round =>
    obtain ⟨k, hkg, rfl, hK, rfl⟩ := hrel
    cases gk with
    | succ g =>
      have hkN : k < N := by omega
      have hkN2 : (k : Int) < (N : Int) := by omega
      obtain ⟨gb, rfl, yc⟩ := hO.out.spot (k := k) (by rw [HN.out]; exact hkN)
      obtain ⟨x, hx⟩ : ∃ x, (ni (holdsL Q p)).getD k 0 = x := ⟨_, rfl⟩
      have HX := Lib.hid hx
      rw [hx] at yc
      clear hx
      have hxp : x ≠ (i : Int) := fun e => by
        have h1 := holds_lt (Q := Q) (p := p) (k := k) (by have := HN.out; rw [ni_len] at this; omega)
        have h2 := HX.out
        rw [ni_get _ _ (by have := HN.out; rw [ni_len] at this; omega), e] at h2
        have h3 : (holdsL Q p).getD k 0 = i := by omega
        rw [h3] at h1
        exact HH.out h1.2
      have hxp2 : (x == (i : Int)) = false := by rw [beq_eq_false_iff_ne]; exact hxp
      have hK2 : Hid (∀ j, j < k + 1 → (ni (holdsL Q p)).getD j 0 ≠ (i : Int)) := Lib.hid (fun j hj => by
        rcases Nat.lt_or_ge j k with h1 | h1
        · exact hK.out j h1
        · obtain rfl : j = k := by omega
          rw [HX.out]
          exact hxp)
      clear hxp
      go_wp2_with (fail)
      go_roundg g
      case measure => omega
      case rel => exact ⟨k + 1, by omega, by go_num, hK2, rfl⟩
    | zero =>
      obtain rfl : N = k := by omega
      have HTW := Lib.hid (HT.out.below hbB.out)
      have CW := Lib.hid (rwaits_calls HTW.out p)
      have y1 := HTW.out.c0
      rw [HM.out] at y1
      unfold twoN at CW
      rw [HJ.out] at CW
      by_cases hN0 : N = 0
      · subst hN0
        go_wp2_with (go_at_call 30; refine CW.out.mono ?_; rintro e w' ⟨rfl, rfl⟩)
        have yq := HTW.out.tg.q.cell HIQ.out
        rw [HA.out, HL.out, HC.out] at yq
        have HAP : Hid (ApA w0 wB 51 (#[.slice (some ⟨G, 0, none⟩) m m, .int .i64 n]) T G As Q wB.drew) := Lib.hid (by
          have h1 := HTW.out.tg
          rw [HM.out] at h1
          have h2 : Below wB.heap.size wB wB.drew := (Below.refl _ _).drew
          exact ⟨h1.below h2, Tn.of_below h2, Nat.le_trans HW0.out hbB.out.size⟩)
        refine wp_region_slots (lv [.pointer (some ⟨T, 0, none⟩), .pointer (some ⟨T, 0, none⟩), .pointer (some ⟨T, 0, none⟩), .slice (some ⟨G, 0, none⟩) m m, .int .i64 (i : Nat), .pointer (some ⟨T, 0, none⟩), .pointer (some ⟨T, 0, none⟩), .pointer (some ⟨T, 0, none⟩), .slice (some ⟨G, 0, none⟩) m m, .int .i64 (i : Nat), .pointer (some ⟨G, i, none⟩), .slice A L C, .int .i64 p, undef, undef, .pointer (some ⟨G, i, none⟩), undef]) 13 14 85 86 (Ap w0 wB 51 (#[.slice (some ⟨G, 0, none⟩) m m, .int .i64 n]) T G As Q i A L p) (by kernel_rfl) (by kernel_rfl) (by rfl) (by rfl) (Ap.start HAP.out) ?steps ?tail
        case steps =>
          refine ⟨?s0, ?s1, ?s2, ?s3, ?s4, ?s5, ?s6, ?s7, ?s8, ?s9, ?s10, ?s11, ?s12, ?s13, ?s14, ?s15, ?s16, trivial⟩
          case s0 =>
            intro Lb ac u hAg hp hl hd
            have q0 := ev_of (show ac.eval (.tmp 0) = .pointer (some ⟨T, 0, none⟩) from hAg.eval 0 rfl)
            refine ⟨rfl, StepOK.run (.pointer (some ⟨T, 0, none⟩)) ?_ ⟨fun _ _ => rfl, hp.keep (by decide) (by decide) (by decide)⟩ trivial⟩
            unfold execOp
            simp [go_sem, q0]
          case s1 =>
            intro Lb ac u hAg hp hl hd
            have q0 := ev_of (show ac.eval (.tmp 72) = .pointer (some ⟨T, 0, none⟩) from depS hd 0 72 rfl rfl (by decide) (by decide))
            refine ⟨rfl, StepOK.run (.pointer (some ⟨T, 0, none⟩)) ?_ ⟨fun _ _ => rfl, hp.keep (by decide) (by decide) (by decide)⟩ trivial⟩
            unfold execOp
            simp [go_sem, q0]
          case s2 =>
            intro Lb ac u hAg hp hl hd
            have q0 := ev_of (show ac.eval (.tmp 73) = .pointer (some ⟨T, 0, none⟩) from depS hd 1 73 rfl rfl (by decide) (by decide))
            refine ⟨rfl, StepOK.run (.pointer (some ⟨T, 0, none⟩)) ?_ ⟨fun _ _ => rfl, hp.keep (by decide) (by decide) (by decide)⟩ trivial⟩
            unfold execOp
            simp [go_sem, q0]
          case s3 =>
            intro Lb ac u hAg hp hl hd
            have q0 := ev_of (show ac.eval (.tmp 74) = .pointer (some ⟨T, 0, none⟩) from depS hd 2 74 rfl rfl (by decide) (by decide))
            have y0 := hp.cT HIQ.out HA.out (j := 3) (by decide) hl 0 (v := .slice (some ⟨G, 0, none⟩) m m) rfl
            refine ⟨rfl, StepOK.run (.slice (some ⟨G, 0, none⟩) m m) ?_ ⟨fun _ _ => rfl, hp.keep (by decide) (by decide) (by decide)⟩ trivial⟩
            unfold execOp
            simp [go_sem, q0, y0]
          case s4 =>
            intro Lb ac u hAg hp hl hd
            have q0 := ev_of (show ac.eval (.tmp 2) = .int .i64 (i : Nat) from hAg.eval 2 rfl)
            refine ⟨rfl, StepOK.run (.int .i64 (i : Nat)) ?_ ⟨fun _ _ => rfl, hp.keep (by decide) (by decide) (by decide)⟩ trivial⟩
            unfold execOp
            simp [go_sem, q0]
          case s5 =>
            intro Lb ac u hAg hp hl hd
            have q0 := ev_of (show ac.eval (.tmp 0) = .pointer (some ⟨T, 0, none⟩) from hAg.eval 0 rfl)
            refine ⟨rfl, StepOK.run (.pointer (some ⟨T, 0, none⟩)) ?_ ⟨fun _ _ => rfl, hp.keep (by decide) (by decide) (by decide)⟩ trivial⟩
            unfold execOp
            simp [go_sem, q0]
          case s6 =>
            intro Lb ac u hAg hp hl hd
            have q0 := ev_of (show ac.eval (.tmp 77) = .pointer (some ⟨T, 0, none⟩) from depS hd 5 77 rfl rfl (by decide) (by decide))
            refine ⟨rfl, StepOK.run (.pointer (some ⟨T, 0, none⟩)) ?_ ⟨fun _ _ => rfl, hp.keep (by decide) (by decide) (by decide)⟩ trivial⟩
            unfold execOp
            simp [go_sem, q0]
          case s7 =>
            intro Lb ac u hAg hp hl hd
            have q0 := ev_of (show ac.eval (.tmp 78) = .pointer (some ⟨T, 0, none⟩) from depS hd 6 78 rfl rfl (by decide) (by decide))
            refine ⟨rfl, StepOK.run (.pointer (some ⟨T, 0, none⟩)) ?_ ⟨fun _ _ => rfl, hp.keep (by decide) (by decide) (by decide)⟩ trivial⟩
            unfold execOp
            simp [go_sem, q0]
          case s8 =>
            intro Lb ac u hAg hp hl hd
            have q0 := ev_of (show ac.eval (.tmp 79) = .pointer (some ⟨T, 0, none⟩) from depS hd 7 79 rfl rfl (by decide) (by decide))
            have y0 := hp.cT HIQ.out HA.out (j := 8) (by decide) hl 0 (v := .slice (some ⟨G, 0, none⟩) m m) rfl
            refine ⟨rfl, StepOK.run (.slice (some ⟨G, 0, none⟩) m m) ?_ ⟨fun _ _ => rfl, hp.keep (by decide) (by decide) (by decide)⟩ trivial⟩
            unfold execOp
            simp [go_sem, q0, y0]
          case s9 =>
            intro Lb ac u hAg hp hl hd
            have q0 := ev_of (show ac.eval (.tmp 2) = .int .i64 (i : Nat) from hAg.eval 2 rfl)
            refine ⟨rfl, StepOK.run (.int .i64 (i : Nat)) ?_ ⟨fun _ _ => rfl, hp.keep (by decide) (by decide) (by decide)⟩ trivial⟩
            unfold execOp
            simp [go_sem, q0]
          case s10 =>
            intro Lb ac u hAg hp hl hd
            have q0 := ev_of (show ac.eval (.tmp 80) = .slice (some ⟨G, 0, none⟩) m m from depS hd 8 80 rfl rfl (by decide) (by decide))
            have q1 := ev_of (show ac.eval (.tmp 81) = .int .i64 (i : Nat) from depS hd 9 81 rfl rfl (by decide) (by decide))
            refine ⟨rfl, StepOK.run (.pointer (some ⟨G, i, none⟩)) ?_ ⟨fun _ _ => rfl, hp.keep (by decide) (by decide) (by decide)⟩ trivial⟩
            unfold execOp
            simp [go_sem, q0, q1, him]
          case s11 =>
            intro Lb ac u hAg hp hl hd
            have q0 := ev_of (show ac.eval (.tmp 82) = .pointer (some ⟨G, i, none⟩) from depS hd 10 82 rfl rfl (by decide) (by decide))
            have y0 := hp.cG HIQ.out HA.out HL.out HC.out (j := 11) (by decide) hl
            refine ⟨rfl, StepOK.run (.slice A L C) ?_ ⟨fun _ _ => rfl, hp.keep (by decide) (by decide) (by decide)⟩ trivial⟩
            unfold execOp
            simp [go_sem, q0, y0]
          case s12 =>
            intro Lb ac u hAg hp hl hd
            have q0 := ev_of (show ac.eval (.tmp 1) = .int .i64 p from hAg.eval 1 rfl)
            refine ⟨rfl, StepOK.run (.int .i64 p) ?_ ⟨fun _ _ => rfl, hp.keep (by decide) (by decide) (by decide)⟩ trivial⟩
            unfold execOp
            simp [go_sem, q0]
          case s13 =>
            intro Lb ac u hAg hp hl hd
            have q0 := ev_of (show ac.eval (.tmp 84) = .int .i64 p from depS hd 12 84 rfl rfl (by decide) (by decide))
            refine ⟨rfl, StepOK.run (.slice (some ⟨u.heap.size, 0, none⟩) 1 1) ?_ ⟨fun h1 _ => absurd rfl h1, hp.lay hl⟩ trivial⟩
            unfold execOp
            simp [go_sem, q0]
          case s14 =>
            intro Lb ac u hAg hp hl hd
            have r0 := (show ac.eval (.tmp 83) = .slice A L C from depS hd 11 83 rfl rfl (by decide) (by decide))
            have l13 := depSL hd 13 rfl
            obtain ⟨gx, e60, hgx⟩ := hp.r hl l13
            have hown := (hp.a hl).1.q.own i HIQ.out
            rw [HA.out, HC.out, HL.out] at hown
            exact ⟨rfl, step_app (P := Try.prog) 40 3 i0 _ Try.underlying40 HI.out HZ.out HS.out HB.out rfl (.tmp 83) (.tmp 85) rfl r0 hown e60 hgx (by omega) (fun g1 c1 w1 ho1 hg1 hE1 => ⟨⟨fun _ h1 => absurd rfl h1, hp.app hl l13 ho1 hg1 hE1⟩, trivial⟩)⟩
          case s15 =>
            intro Lb ac u hAg hp hl hd
            have q0 := ev_of (show ac.eval (.tmp 75) = .slice (some ⟨G, 0, none⟩) m m from depS hd 3 75 rfl rfl (by decide) (by decide))
            have q1 := ev_of (show ac.eval (.tmp 76) = .int .i64 (i : Nat) from depS hd 4 76 rfl rfl (by decide) (by decide))
            refine ⟨rfl, StepOK.run (.pointer (some ⟨G, i, none⟩)) ?_ ⟨fun _ _ => rfl, hp.keep (by decide) (by decide) (by decide)⟩ trivial⟩
            unfold execOp
            simp [go_sem, q0, q1, him]
          case s16 =>
            intro Lb ac u hAg hp hl hd
            have r0 := (show ac.eval (.tmp 87) = .pointer (some ⟨G, i, none⟩) from depS hd 15 87 rfl rfl (by decide) (by decide))
            have hall : ∀ j, j < 16 → Lb j = true := by
              intro j hj
              match j, hj with
              | 0, _ => exact depSL hd 0 rfl
              | 1, _ => exact depSL hd 1 rfl
              | 2, _ => exact depSL hd 2 rfl
              | 3, _ => exact depSL hd 3 rfl
              | 4, _ => exact depSL hd 4 rfl
              | 5, _ => exact depSL hd 5 rfl
              | 6, _ => exact depSL hd 6 rfl
              | 7, _ => exact depSL hd 7 rfl
              | 8, _ => exact depSL hd 8 rfl
              | 9, _ => exact depSL hd 9 rfl
              | 10, _ => exact depSL hd 10 rfl
              | 11, _ => exact depSL hd 11 rfl
              | 12, _ => exact depSL hd 12 rfl
              | 13, _ => exact depSL hd 13 rfl
              | 14, _ => exact depSL hd 14 rfl
              | 15, _ => exact depSL hd 15 rfl
              | j + 16, h => exact absurd h (by omega)
            obtain ⟨g1, c1, e61, hcz, hfz, hAp⟩ := hp.store HIQ.out HA.out HL.out HC.out hl hall
            refine ⟨rfl, StepOK.skip (w' := u.setCell ⟨G, i, none⟩ (.slice (some ⟨g1, 0, none⟩) (L + 1) c1)) ?_ ⟨fun _ _ => rfl, hAp⟩ trivial⟩
            unfold execOp
            simp only [r0, e61]
            simp [go_sem, hcz, hfz]
        case tail =>
          intro Lb vs u hp hv hall
          have e0 : vs 0 = .pointer (some ⟨T, 0, none⟩) := hv 0 rfl (by decide) (by decide)
          have e1 : vs 1 = .pointer (some ⟨T, 0, none⟩) := hv 1 rfl (by decide) (by decide)
          have e2 : vs 2 = .pointer (some ⟨T, 0, none⟩) := hv 2 rfl (by decide) (by decide)
          have e3 : vs 3 = .slice (some ⟨G, 0, none⟩) m m := hv 3 rfl (by decide) (by decide)
          have e4 : vs 4 = .int .i64 (i : Nat) := hv 4 rfl (by decide) (by decide)
          have e5 : vs 5 = .pointer (some ⟨T, 0, none⟩) := hv 5 rfl (by decide) (by decide)
          have e6 : vs 6 = .pointer (some ⟨T, 0, none⟩) := hv 6 rfl (by decide) (by decide)
          have e7 : vs 7 = .pointer (some ⟨T, 0, none⟩) := hv 7 rfl (by decide) (by decide)
          have e8 : vs 8 = .slice (some ⟨G, 0, none⟩) m m := hv 8 rfl (by decide) (by decide)
          have e9 : vs 9 = .int .i64 (i : Nat) := hv 9 rfl (by decide) (by decide)
          have e10 : vs 10 = .pointer (some ⟨G, i, none⟩) := hv 10 rfl (by decide) (by decide)
          have e11 : vs 11 = .slice A L C := hv 11 rfl (by decide) (by decide)
          have e12 : vs 12 = .int .i64 p := hv 12 rfl (by decide) (by decide)
          have e15 : vs 15 = .pointer (some ⟨G, i, none⟩) := hv 15 rfl (by decide) (by decide)
          simp only [putsFrom, Act.put, List.setIfInBounds_toArray, List.set_cons_succ, List.set_cons_zero, Nat.reduceAdd, e0, e1, e2, e3, e4, e5, e6, e7, e8, e9, e10, e11, e12, e15]
          have HCC := Lib.hid (hp.c (hall 16 (by decide)))
          generalize vs 13 = z13
          generalize vs 14 = z14
          clear e0 e1 e2 e3 e4 e5 e6 e7 e8 e9 e10 e11 e12 e15 hv hp hall y1 yq
          obtain ⟨As', hTg, hTn⟩ := HCC.out
          have hTb : Rb w0 u T G As' n (Q.set i (qu Q i ++ [p])) := hTg.rb (by rw [List.length_set, HM.out]) HNM.out
          have HTb := Lib.hid hTb
          have HTn := Lib.hid ((Tn.of_below hbB.out).trans hTn)
          have hiL : i < (Q.set i (qu Q i ++ [p])).length := by rw [List.length_set]; exact HIQ.out
          have y1 := hTb.c0
          have yq := hTb.tg.q.cell hiL
          have e9 : qu (Q.set i (qu Q i ++ [p])) i = qu Q i ++ [p] := by rw [qu_set, if_pos ⟨rfl, HIQ.out⟩]
          rw [e9, List.length_append, HL.out] at yq
          rw [List.length_set, HM.out] at y1
          obtain ⟨L2, hL2⟩ : ∃ L2, L + [p].length = L2 := ⟨_, rfl⟩
          rw [hL2] at yq
          obtain ⟨bb, hbb⟩ : ∃ bb, ((L2 : Int) == 1) = bb := ⟨_, rfl⟩
          have HBB : Hid (decide (qu Q i = []) = bb) := Lib.hid (by
            have h1 : [p].length = 1 := rfl
            have h2 := HL.out
            rw [← hbb, Bool.eq_iff_iff, decide_eq_true_eq, beq_iff_eq, ← List.length_eq_zero_iff]
            omega)
          generalize qA As' i = A2 at *
          generalize qC As' i = C2 at *
          have hL22 : L2 ≤ 17 := by have : [p].length = 1 := rfl; omega
          clear hTg hTn hTb hiL e9 HCC HAP hL2
          go_wp2_with (fail)
          go_ret2
          rw [HBB.out, ← hbb]
          exact ⟨rfl, _, HTb.out, HTn.out⟩
      · obtain ⟨N', rfl⟩ : ∃ N', N = N' + 1 := ⟨N - 1, by omega⟩
        obtain ⟨gl, hgl, yl⟩ := hO.out.spot (k := N') (by rw [HN.out]; omega)
        have hl1 := HLAST.out N' rfl
        rw [HGR.out] at hl1
        obtain ⟨z, hz⟩ : ∃ z, (ni (holdsL Q p)).getD N' 0 = z := ⟨_, rfl⟩
        rw [hz] at yl hl1
        subst hgl
        have hl2 := of_decide_eq_false hl1.symm
        clear hz hl1
        have hN1 : ((N' + 1 : Nat) : Int) - 1 = (N' : Int) := by omega
        have hN3 : (0 : Int) < ((N' + 1 : Nat) : Int) := by omega
        go_wp2_with (go_at_call 30; refine CW.out.mono ?_; rintro e w' ⟨rfl, rfl⟩)
        have yq := HTW.out.tg.q.cell HIQ.out
        rw [HA.out, HL.out, HC.out] at yq
        have HAP : Hid (ApA w0 wB 51 (#[.slice (some ⟨G, 0, none⟩) m m, .int .i64 n]) T G As Q wB.drew) := Lib.hid (by
          have h1 := HTW.out.tg
          rw [HM.out] at h1
          have h2 : Below wB.heap.size wB wB.drew := (Below.refl _ _).drew
          exact ⟨h1.below h2, Tn.of_below h2, Nat.le_trans HW0.out hbB.out.size⟩)
        refine wp_region_slots (lv [.pointer (some ⟨T, 0, none⟩), .pointer (some ⟨T, 0, none⟩), .pointer (some ⟨T, 0, none⟩), .slice (some ⟨G, 0, none⟩) m m, .int .i64 (i : Nat), .pointer (some ⟨T, 0, none⟩), .pointer (some ⟨T, 0, none⟩), .pointer (some ⟨T, 0, none⟩), .slice (some ⟨G, 0, none⟩) m m, .int .i64 (i : Nat), .pointer (some ⟨G, i, none⟩), .slice A L C, .int .i64 p, undef, undef, .pointer (some ⟨G, i, none⟩), undef]) 13 14 85 86 (Ap w0 wB 51 (#[.slice (some ⟨G, 0, none⟩) m m, .int .i64 n]) T G As Q i A L p) (by kernel_rfl) (by kernel_rfl) (by rfl) (by rfl) (Ap.start HAP.out) ?steps ?tail
        case steps =>
          refine ⟨?s0, ?s1, ?s2, ?s3, ?s4, ?s5, ?s6, ?s7, ?s8, ?s9, ?s10, ?s11, ?s12, ?s13, ?s14, ?s15, ?s16, trivial⟩
          case s0 =>
            intro Lb ac u hAg hp hl hd
            have q0 := ev_of (show ac.eval (.tmp 0) = .pointer (some ⟨T, 0, none⟩) from hAg.eval 0 rfl)
            refine ⟨rfl, StepOK.run (.pointer (some ⟨T, 0, none⟩)) ?_ ⟨fun _ _ => rfl, hp.keep (by decide) (by decide) (by decide)⟩ trivial⟩
            unfold execOp
            simp [go_sem, q0]
          case s1 =>
            intro Lb ac u hAg hp hl hd
            have q0 := ev_of (show ac.eval (.tmp 72) = .pointer (some ⟨T, 0, none⟩) from depS hd 0 72 rfl rfl (by decide) (by decide))
            refine ⟨rfl, StepOK.run (.pointer (some ⟨T, 0, none⟩)) ?_ ⟨fun _ _ => rfl, hp.keep (by decide) (by decide) (by decide)⟩ trivial⟩
            unfold execOp
            simp [go_sem, q0]
          case s2 =>
            intro Lb ac u hAg hp hl hd
            have q0 := ev_of (show ac.eval (.tmp 73) = .pointer (some ⟨T, 0, none⟩) from depS hd 1 73 rfl rfl (by decide) (by decide))
            refine ⟨rfl, StepOK.run (.pointer (some ⟨T, 0, none⟩)) ?_ ⟨fun _ _ => rfl, hp.keep (by decide) (by decide) (by decide)⟩ trivial⟩
            unfold execOp
            simp [go_sem, q0]
          case s3 =>
            intro Lb ac u hAg hp hl hd
            have q0 := ev_of (show ac.eval (.tmp 74) = .pointer (some ⟨T, 0, none⟩) from depS hd 2 74 rfl rfl (by decide) (by decide))
            have y0 := hp.cT HIQ.out HA.out (j := 3) (by decide) hl 0 (v := .slice (some ⟨G, 0, none⟩) m m) rfl
            refine ⟨rfl, StepOK.run (.slice (some ⟨G, 0, none⟩) m m) ?_ ⟨fun _ _ => rfl, hp.keep (by decide) (by decide) (by decide)⟩ trivial⟩
            unfold execOp
            simp [go_sem, q0, y0]
          case s4 =>
            intro Lb ac u hAg hp hl hd
            have q0 := ev_of (show ac.eval (.tmp 2) = .int .i64 (i : Nat) from hAg.eval 2 rfl)
            refine ⟨rfl, StepOK.run (.int .i64 (i : Nat)) ?_ ⟨fun _ _ => rfl, hp.keep (by decide) (by decide) (by decide)⟩ trivial⟩
            unfold execOp
            simp [go_sem, q0]
          case s5 =>
            intro Lb ac u hAg hp hl hd
            have q0 := ev_of (show ac.eval (.tmp 0) = .pointer (some ⟨T, 0, none⟩) from hAg.eval 0 rfl)
            refine ⟨rfl, StepOK.run (.pointer (some ⟨T, 0, none⟩)) ?_ ⟨fun _ _ => rfl, hp.keep (by decide) (by decide) (by decide)⟩ trivial⟩
            unfold execOp
            simp [go_sem, q0]
          case s6 =>
            intro Lb ac u hAg hp hl hd
            have q0 := ev_of (show ac.eval (.tmp 77) = .pointer (some ⟨T, 0, none⟩) from depS hd 5 77 rfl rfl (by decide) (by decide))
            refine ⟨rfl, StepOK.run (.pointer (some ⟨T, 0, none⟩)) ?_ ⟨fun _ _ => rfl, hp.keep (by decide) (by decide) (by decide)⟩ trivial⟩
            unfold execOp
            simp [go_sem, q0]
          case s7 =>
            intro Lb ac u hAg hp hl hd
            have q0 := ev_of (show ac.eval (.tmp 78) = .pointer (some ⟨T, 0, none⟩) from depS hd 6 78 rfl rfl (by decide) (by decide))
            refine ⟨rfl, StepOK.run (.pointer (some ⟨T, 0, none⟩)) ?_ ⟨fun _ _ => rfl, hp.keep (by decide) (by decide) (by decide)⟩ trivial⟩
            unfold execOp
            simp [go_sem, q0]
          case s8 =>
            intro Lb ac u hAg hp hl hd
            have q0 := ev_of (show ac.eval (.tmp 79) = .pointer (some ⟨T, 0, none⟩) from depS hd 7 79 rfl rfl (by decide) (by decide))
            have y0 := hp.cT HIQ.out HA.out (j := 8) (by decide) hl 0 (v := .slice (some ⟨G, 0, none⟩) m m) rfl
            refine ⟨rfl, StepOK.run (.slice (some ⟨G, 0, none⟩) m m) ?_ ⟨fun _ _ => rfl, hp.keep (by decide) (by decide) (by decide)⟩ trivial⟩
            unfold execOp
            simp [go_sem, q0, y0]
          case s9 =>
            intro Lb ac u hAg hp hl hd
            have q0 := ev_of (show ac.eval (.tmp 2) = .int .i64 (i : Nat) from hAg.eval 2 rfl)
            refine ⟨rfl, StepOK.run (.int .i64 (i : Nat)) ?_ ⟨fun _ _ => rfl, hp.keep (by decide) (by decide) (by decide)⟩ trivial⟩
            unfold execOp
            simp [go_sem, q0]
          case s10 =>
            intro Lb ac u hAg hp hl hd
            have q0 := ev_of (show ac.eval (.tmp 80) = .slice (some ⟨G, 0, none⟩) m m from depS hd 8 80 rfl rfl (by decide) (by decide))
            have q1 := ev_of (show ac.eval (.tmp 81) = .int .i64 (i : Nat) from depS hd 9 81 rfl rfl (by decide) (by decide))
            refine ⟨rfl, StepOK.run (.pointer (some ⟨G, i, none⟩)) ?_ ⟨fun _ _ => rfl, hp.keep (by decide) (by decide) (by decide)⟩ trivial⟩
            unfold execOp
            simp [go_sem, q0, q1, him]
          case s11 =>
            intro Lb ac u hAg hp hl hd
            have q0 := ev_of (show ac.eval (.tmp 82) = .pointer (some ⟨G, i, none⟩) from depS hd 10 82 rfl rfl (by decide) (by decide))
            have y0 := hp.cG HIQ.out HA.out HL.out HC.out (j := 11) (by decide) hl
            refine ⟨rfl, StepOK.run (.slice A L C) ?_ ⟨fun _ _ => rfl, hp.keep (by decide) (by decide) (by decide)⟩ trivial⟩
            unfold execOp
            simp [go_sem, q0, y0]
          case s12 =>
            intro Lb ac u hAg hp hl hd
            have q0 := ev_of (show ac.eval (.tmp 1) = .int .i64 p from hAg.eval 1 rfl)
            refine ⟨rfl, StepOK.run (.int .i64 p) ?_ ⟨fun _ _ => rfl, hp.keep (by decide) (by decide) (by decide)⟩ trivial⟩
            unfold execOp
            simp [go_sem, q0]
          case s13 =>
            intro Lb ac u hAg hp hl hd
            have q0 := ev_of (show ac.eval (.tmp 84) = .int .i64 p from depS hd 12 84 rfl rfl (by decide) (by decide))
            refine ⟨rfl, StepOK.run (.slice (some ⟨u.heap.size, 0, none⟩) 1 1) ?_ ⟨fun h1 _ => absurd rfl h1, hp.lay hl⟩ trivial⟩
            unfold execOp
            simp [go_sem, q0]
          case s14 =>
            intro Lb ac u hAg hp hl hd
            have r0 := (show ac.eval (.tmp 83) = .slice A L C from depS hd 11 83 rfl rfl (by decide) (by decide))
            have l13 := depSL hd 13 rfl
            obtain ⟨gx, e60, hgx⟩ := hp.r hl l13
            have hown := (hp.a hl).1.q.own i HIQ.out
            rw [HA.out, HC.out, HL.out] at hown
            exact ⟨rfl, step_app (P := Try.prog) 40 3 i0 _ Try.underlying40 HI.out HZ.out HS.out HB.out rfl (.tmp 83) (.tmp 85) rfl r0 hown e60 hgx (by omega) (fun g1 c1 w1 ho1 hg1 hE1 => ⟨⟨fun _ h1 => absurd rfl h1, hp.app hl l13 ho1 hg1 hE1⟩, trivial⟩)⟩
          case s15 =>
            intro Lb ac u hAg hp hl hd
            have q0 := ev_of (show ac.eval (.tmp 75) = .slice (some ⟨G, 0, none⟩) m m from depS hd 3 75 rfl rfl (by decide) (by decide))
            have q1 := ev_of (show ac.eval (.tmp 76) = .int .i64 (i : Nat) from depS hd 4 76 rfl rfl (by decide) (by decide))
            refine ⟨rfl, StepOK.run (.pointer (some ⟨G, i, none⟩)) ?_ ⟨fun _ _ => rfl, hp.keep (by decide) (by decide) (by decide)⟩ trivial⟩
            unfold execOp
            simp [go_sem, q0, q1, him]
          case s16 =>
            intro Lb ac u hAg hp hl hd
            have r0 := (show ac.eval (.tmp 87) = .pointer (some ⟨G, i, none⟩) from depS hd 15 87 rfl rfl (by decide) (by decide))
            have hall : ∀ j, j < 16 → Lb j = true := by
              intro j hj
              match j, hj with
              | 0, _ => exact depSL hd 0 rfl
              | 1, _ => exact depSL hd 1 rfl
              | 2, _ => exact depSL hd 2 rfl
              | 3, _ => exact depSL hd 3 rfl
              | 4, _ => exact depSL hd 4 rfl
              | 5, _ => exact depSL hd 5 rfl
              | 6, _ => exact depSL hd 6 rfl
              | 7, _ => exact depSL hd 7 rfl
              | 8, _ => exact depSL hd 8 rfl
              | 9, _ => exact depSL hd 9 rfl
              | 10, _ => exact depSL hd 10 rfl
              | 11, _ => exact depSL hd 11 rfl
              | 12, _ => exact depSL hd 12 rfl
              | 13, _ => exact depSL hd 13 rfl
              | 14, _ => exact depSL hd 14 rfl
              | 15, _ => exact depSL hd 15 rfl
              | j + 16, h => exact absurd h (by omega)
            obtain ⟨g1, c1, e61, hcz, hfz, hAp⟩ := hp.store HIQ.out HA.out HL.out HC.out hl hall
            refine ⟨rfl, StepOK.skip (w' := u.setCell ⟨G, i, none⟩ (.slice (some ⟨g1, 0, none⟩) (L + 1) c1)) ?_ ⟨fun _ _ => rfl, hAp⟩ trivial⟩
            unfold execOp
            simp only [r0, e61]
            simp [go_sem, hcz, hfz]
        case tail =>
          intro Lb vs u hp hv hall
          have e0 : vs 0 = .pointer (some ⟨T, 0, none⟩) := hv 0 rfl (by decide) (by decide)
          have e1 : vs 1 = .pointer (some ⟨T, 0, none⟩) := hv 1 rfl (by decide) (by decide)
          have e2 : vs 2 = .pointer (some ⟨T, 0, none⟩) := hv 2 rfl (by decide) (by decide)
          have e3 : vs 3 = .slice (some ⟨G, 0, none⟩) m m := hv 3 rfl (by decide) (by decide)
          have e4 : vs 4 = .int .i64 (i : Nat) := hv 4 rfl (by decide) (by decide)
          have e5 : vs 5 = .pointer (some ⟨T, 0, none⟩) := hv 5 rfl (by decide) (by decide)
          have e6 : vs 6 = .pointer (some ⟨T, 0, none⟩) := hv 6 rfl (by decide) (by decide)
          have e7 : vs 7 = .pointer (some ⟨T, 0, none⟩) := hv 7 rfl (by decide) (by decide)
          have e8 : vs 8 = .slice (some ⟨G, 0, none⟩) m m := hv 8 rfl (by decide) (by decide)
          have e9 : vs 9 = .int .i64 (i : Nat) := hv 9 rfl (by decide) (by decide)
          have e10 : vs 10 = .pointer (some ⟨G, i, none⟩) := hv 10 rfl (by decide) (by decide)
          have e11 : vs 11 = .slice A L C := hv 11 rfl (by decide) (by decide)
          have e12 : vs 12 = .int .i64 p := hv 12 rfl (by decide) (by decide)
          have e15 : vs 15 = .pointer (some ⟨G, i, none⟩) := hv 15 rfl (by decide) (by decide)
          simp only [putsFrom, Act.put, List.setIfInBounds_toArray, List.set_cons_succ, List.set_cons_zero, Nat.reduceAdd, e0, e1, e2, e3, e4, e5, e6, e7, e8, e9, e10, e11, e12, e15]
          have HCC := Lib.hid (hp.c (hall 16 (by decide)))
          generalize vs 13 = z13
          generalize vs 14 = z14
          clear e0 e1 e2 e3 e4 e5 e6 e7 e8 e9 e10 e11 e12 e15 hv hp hall y1 yq
          obtain ⟨As', hTg, hTn⟩ := HCC.out
          have hTb : Rb w0 u T G As' n (Q.set i (qu Q i ++ [p])) := hTg.rb (by rw [List.length_set, HM.out]) HNM.out
          have HTb := Lib.hid hTb
          have HTn := Lib.hid ((Tn.of_below hbB.out).trans hTn)
          have hiL : i < (Q.set i (qu Q i ++ [p])).length := by rw [List.length_set]; exact HIQ.out
          have y1 := hTb.c0
          have yq := hTb.tg.q.cell hiL
          have e9 : qu (Q.set i (qu Q i ++ [p])) i = qu Q i ++ [p] := by rw [qu_set, if_pos ⟨rfl, HIQ.out⟩]
          rw [e9, List.length_append, HL.out] at yq
          rw [List.length_set, HM.out] at y1
          obtain ⟨L2, hL2⟩ : ∃ L2, L + [p].length = L2 := ⟨_, rfl⟩
          rw [hL2] at yq
          obtain ⟨bb, hbb⟩ : ∃ bb, ((L2 : Int) == 1) = bb := ⟨_, rfl⟩
          have HBB : Hid (decide (qu Q i = []) = bb) := Lib.hid (by
            have h1 : [p].length = 1 := rfl
            have h2 := HL.out
            rw [← hbb, Bool.eq_iff_iff, decide_eq_true_eq, beq_iff_eq, ← List.length_eq_zero_iff]
            omega)
          generalize qA As' i = A2 at *
          generalize qC As' i = C2 at *
          have hL22 : L2 ≤ 17 := by have : [p].length = 1 := rfl; omega
          clear hTg hTn hTb hiL e9 HCC HAP hL2
          go_wp2_with (fail)
          go_ret2
          rw [HBB.out, ← hbb]
          exact ⟨rfl, _, HTb.out, HTn.out⟩
theorem rwant_calls (h : Rb w0 w T G As n Q) (hw0 : w0.heap.size ≤ w.heap.size) (p id : Int) :
    Calls Try.prog 14 #[.pointer (some ⟨T, 0, none⟩), .int .i64 p, .int .i64 id] w (RWantP w0 w T G As n (wantB Q n p id) (wantE Q n p id) (wantQ Q n p id)) := by
  have keep : ∀ {b er}, Calls Try.prog 14 #[.pointer (some ⟨T, 0, none⟩), .int .i64 p, .int .i64 id] w (fun e w' => e = .returned (.tuple #[.bool b, .int .i64 er]) ∧ Below w.heap.size w w') → Calls Try.prog 14 #[.pointer (some ⟨T, 0, none⟩), .int .i64 p, .int .i64 id] w (RWantP w0 w T G As n b er Q) := fun hc => by
    refine hc.mono ?_
    rintro e w' ⟨rfl, hB⟩
    exact ⟨rfl, As, h.below hB, Tn.of_below hB⟩
  cases ho : okB Q n p id with
  | false =>
    obtain ⟨e1, e2, e3⟩ := want_no ho
    rw [e1, e2, e3]
    refine (rwant_bad h p id ho).mono ?_
    rintro e w' ⟨rfl, rfl⟩
    exact ⟨rfl, As, h, Tn.refl⟩
  | true =>
    have hp := ok_iff.1 ho
    obtain ⟨i, rfl⟩ := Int.eq_ofNat_of_zero_le hp.2.2.1
    have hi : i < Q.length := by omega
    have hp2 : 0 ≤ p ∧ p < n := ⟨hp.1, hp.2.1⟩
    by_cases hh : Hold Q p i
    · obtain ⟨e1, e2, e3⟩ := want_has ho hh
      rw [e1, e2, e3]
      exact keep (rwant_held h p i hp2 hi hh)
    · cases hg : grB Q p i with
      | true =>
        obtain ⟨e1, e2, e3⟩ := want_bar ho hh (by rw [hg, Bool.or_true])
        rw [e1, e2, e3]
        cases hj : waitsF Q p with
        | none => exact keep (rwant_gr0 h hw0 p i hp2 hi hh hj hg)
        | some j =>
          by_cases hji : j = i
          · subst hji
            exact keep (rwant_gr1 h hw0 p j hp2 hi hh hj hg)
          · exact keep (rwant_else h hw0 p i hp2 hi hh j hj hji)
      | false =>
        cases hj : waitsF Q p with
        | none =>
          have hb : (elseB Q p i || grB Q p i) = false := by rw [hg]; unfold elseB; rw [hj]; rfl
          obtain ⟨e1, e2, e3⟩ := want_put ho hh hb (by rw [hj]; rfl)
          rw [e1, e2, e3]
          exact rwant_new h hw0 p i hp2 hi hh hj hg
        | some j =>
          by_cases hji : j = i
          · subst hji
            have hb : (elseB Q p j || grB Q p j) = false := by rw [hg]; unfold elseB; rw [hj]; simp
            obtain ⟨e1, e2, e3⟩ := want_wait ho hh hb (by rw [hj]; rfl)
            rw [e1, e2, e3]
            exact keep (rwant_waits h hw0 p j hp2 hi hh hj hg)
          · obtain ⟨e1, e2, e3⟩ := want_bar ho hh (by unfold elseB; rw [hj]; simp [hji])
            rw [e1, e2, e3]
            exact keep (rwant_else h hw0 p i hp2 hi hh j hj hji)
end
end Go.Proofs.Ythlodfahajaneaa
