/- What bars a process from a lock; for which one it waits; a queue told; which ones it holds. -/
import Derived.Test.YthlodfahajaneaaKb
import Derived.Shelf.Abstract
set_option linter.unusedSimpArgs false
set_option linter.unusedVariables false
namespace Go.Proofs.Ythlodfahajaneaa
open Go Go.RowKit LockMath Go.Shelf
theorem waits1_calls (i k : Nat) (w : World) : Calls Try.prog 32 #[.int .i64 (i : Int), .int .i64 (k : Int)] w fun e w' => e = .returned (.bool (waitF i k)) ∧ w = w' := by
  have kv : Hid (waitF i k = decide (0 < k)) := rfl
  go_enter Try.func32, Try.ntmps32
  go_wp2_with (fail)
  go_ret
  rw [kv.out]
  exact ⟨rfl, rfl⟩
theorem bars1_calls (id i k g : Nat) (w : World) (hc : w.cell? ⟨g, 0, none⟩ = some (.int .i64 (id : Int))) : Calls Try.prog 35 #[.int .i64 (i : Int), .int .i64 (k : Int), .pointer (some ⟨g, 0, none⟩)] w fun e w' => e = .returned (.bool (barF id i k)) ∧ w = w' := by
  by_cases hk : k = 0
  · subst hk
    have kv : Hid (barF id i 0 = decide (id < i)) := by
      show _ = _
      unfold barF
      rw [if_pos rfl]
    go_enter Try.func35, Try.ntmps35
    go_wp2_with (fail)
    go_ret
    rw [kv.out]
    exact ⟨rfl, rfl⟩
  · have kv : Hid (barF id i k = ((i : Int) != (id : Int))) := by
      show _ = _
      unfold barF
      rw [if_neg hk, Bool.eq_iff_iff, decide_eq_true_eq, bne_iff_ne]; omega
    have hk2 : ((k : Int) == 0) = false := by rw [beq_eq_false_iff_ne]; omega
    clear hk
    go_enter Try.func35, Try.ntmps35
    go_wp2_with (fail)
    go_ret
    rw [kv.out]
    exact ⟨rfl, rfl⟩
section
variable {w0 w : World} {T G : Nat} {As : List (Option Addr × Nat)} {n : Int} {Q : List (List Int)}
theorem barred_calls (h : Tb w0 w T G As n Q) (p : Int) (id : Nat) :
    Calls Try.prog 27 #[.pointer (some ⟨T, 0, none⟩), .int .i64 p, .int .i64 (id : Int)] w fun e w' => e = .returned (.bool (elseB Q p id || grB Q p id)) ∧ Below w.heap.size w w' := by
  have hb : Below w.heap.size w (w.alloc (.cells #[.int .i64 (id : Int)] 3)) := (Below.refl _ _).alloc (Nat.le_refl _) _
  have hc : (w.alloc (.cells #[.int .i64 (id : Int)] 3)).cell? ⟨w.heap.size, 0, none⟩ = some (.int .i64 (id : Int)) := cell_of_row _ _ 0 _ _ _ (heap_alloc_new w _)
  have cs := seek_calls (h.below hb) p 35 #[.pointer (some ⟨w.heap.size, 0, none⟩)] (barF id) (enters_of Try.func35 (by kernel_rfl) rfl) (fun i k => bars1_calls id i k w.heap.size _ hc)
  have hv := seek_bars h.nm.inv p id
  obtain ⟨o, ho⟩ : ∃ o, seekF Q p (barF id) = o := ⟨_, rfl⟩
  rw [ho] at hv cs
  have HB := Lib.hid hb
  have HV := Lib.hid hv
  have CS := Lib.hid cs
  unfold twoN at CS
  clear hb hc cs hv ho h
  go_enter Try.func27, Try.ntmps27
  go_wp2_with (go_at_call 31; refine CS.out.mono ?_; rintro e w' ⟨rfl, rfl⟩)
  go_ret
  rw [← HV.out]
  exact ⟨rfl, HB.out⟩
theorem waits_calls (h : Tb w0 w T G As n Q) (p : Int) :
    Calls Try.prog 17 #[.pointer (some ⟨T, 0, none⟩), .int .i64 p] w fun e w' => e = .returned (twoN (waitsF Q p)) ∧ w = w' := by
  have cs := seek_calls h p 32 #[] waitF (enters_of Try.func32 (by kernel_rfl) rfl) (fun i k => waits1_calls i k _)
  rw [seek_waits] at cs
  obtain ⟨o, ho⟩ : ∃ o, waitsF Q p = o := ⟨_, rfl⟩
  rw [ho] at cs ⊢
  have CS := Lib.hid cs
  unfold twoN at CS
  clear cs ho h
  go_enter Try.func17, Try.ntmps17
  go_wp2_with (go_at_call 31; refine CS.out.mono ?_; rintro e w' ⟨rfl, rfl⟩)
  go_ret2
  exact ⟨rfl, rfl⟩
theorem waits_nil (w : World) (p : Int) : Calls Try.prog 17 #[.pointer none, .int .i64 p] w fun e w' => e = .returned (twoN none) ∧ w = w' := by
  go_enter Try.func17, Try.ntmps17
  go_wp2_with (fail)
  go_ret2
  exact ⟨rfl, rfl⟩
/-- slices.Index, slices.Contains. -/
theorem index_calls (A : Option Addr) (l : List Int) (c : Nat) (p : Int) (w : World) (hr : Cel w A (iv l)) (hlen : l.length ≤ 1099511627776) :
    Calls Try.prog 36 #[.slice A l.length c, .int .i64 p] w fun e w' => (∃ v, e = .returned (.int .i64 v) ∧ decide (0 ≤ v) = decide (p ∈ l) ∧ -1 ≤ v ∧ v ≤ 1099511627776) ∧ w = w' := by
  have HR := Lib.hid hr
  obtain ⟨L, hL⟩ : ∃ L, l.length = L := ⟨_, rfl⟩
  have HL := Lib.hid hL
  rw [hL] at hlen ⊢
  clear hr hL
  go_enter Try.func36, Try.ntmps36
  go_wp2_with (fail)
  go_loopg [8] L (fun g s8 wx => ∃ j : Nat, j + g = L ∧ s8 = .int .i64 j ∧ Hid (∀ i, i < j → l.getD i 0 ≠ p) ∧ w = wx)
  case atStart => exact ⟨0, by omega, rfl, Lib.hid (fun j hj => absurd hj (Nat.not_lt_zero _)), rfl⟩
  case round =>
    obtain ⟨j, hjg, rfl, hJ, rfl⟩ := hrel
    cases gk with
    | zero =>
      obtain rfl : j = L := by omega
      have hP : Hid (p ∉ l) := Lib.hid (fun hm => by
        obtain ⟨i, hi, e⟩ := List.getElem_of_mem hm
        refine hJ.out i (by rw [← HL.out]; exact hi) ?_
        rw [List.getD_eq_getElem?_getD, List.getElem?_eq_getElem hi, Option.getD_some, e])
      go_wp2_with (fail)
      go_ret
      exact ⟨⟨-1, rfl, by rw [decide_eq_false hP.out]; rfl, by omega, by omega⟩, rfl⟩
    | succ g =>
      have hjL : j < L := by omega
      have hjL2 : (j : Int) < (L : Int) := by omega
      obtain ⟨ad, rfl, yc⟩ := HR.out.int (k := j) (by rw [HL.out]; exact hjL)
      obtain ⟨x, hx⟩ : ∃ x, l.getD j 0 = x := ⟨_, rfl⟩
      have HX := Lib.hid hx
      rw [hx] at yc
      clear hx
      by_cases hxp : p = x
      · subst hxp
        have hP : Hid (p ∈ l) := Lib.hid (by
          have := HX.out
          rw [List.getD_eq_getElem?_getD, List.getElem?_eq_getElem (by rw [HL.out]; exact hjL), Option.getD_some] at this
          rw [← this]
          exact List.getElem_mem _)
        go_wp2_with (fail)
        go_ret
        exact ⟨⟨(j : Int), rfl, by rw [decide_eq_true hP.out, decide_eq_true_eq]; omega, by omega, by omega⟩, rfl⟩
      · have hxp2 : (p == x) = false := by simpa using hxp
        have hJ2 : Hid (∀ i, i < j + 1 → l.getD i 0 ≠ p) := Lib.hid (fun i hi => by
          rcases Nat.lt_or_ge i j with h1 | h1
          · exact hJ.out i h1
          · obtain rfl : i = j := by omega
            rw [HX.out]
            exact fun e => hxp e.symm)
        clear hxp
        go_wp2_with (fail)
        go_roundg g
        case measure => omega
        case rel => exact ⟨j + 1, by omega, by go_num, hJ2, rfl⟩
theorem contains_calls (A : Option Addr) (l : List Int) (c : Nat) (p : Int) (w : World) (hr : Cel w A (iv l)) (hlen : l.length ≤ 1099511627776) :
    Calls Try.prog 28 #[.slice A l.length c, .int .i64 p] w fun e w' => e = .returned (.bool (decide (p ∈ l))) ∧ w = w' := by
  have CI := Lib.hid (index_calls A l c p w hr hlen)
  generalize decide (p ∈ l) = b at *
  clear hr
  go_enter Try.func28, Try.ntmps28
  go_wp2_with (go_at_call 36; refine CI.out.mono ?_; rintro e w' ⟨⟨v, rfl, hv, hv1, hv2⟩, rfl⟩)
  go_ret
  rw [← hv]
  exact ⟨rfl, rfl⟩
end
end Go.Proofs.Ythlodfahajaneaa
