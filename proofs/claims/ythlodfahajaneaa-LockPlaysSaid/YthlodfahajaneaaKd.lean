/- A queue told, cloned; the locks that a process holds. -/
import Derived.Test.YthlodfahajaneaaKc
import Derived.Test.YthlodfahajaneaaUb
import Derived.Lib.SliceRun
set_option linter.unusedSimpArgs false
set_option linter.unusedVariables false
namespace Go.Proofs.Ythlodfahajaneaa
open Go Go.RowKit LockMath Go.Shelf
theorem clone_calls (w : World) (A : Option Addr) (l : List Int) (c : Nat) (hr : Cel w A (iv l)) (hm : l.length ≤ 1099511627776) :
    Calls Try.prog 33 #[.slice A l.length c] w (GivesI l w) := by
  obtain ⟨i0, hi0, hz0, hs0, hb0⟩ := info_parts i64_info
  have HI := Lib.hid hi0
  have HZ := Lib.hid hz0
  have HS := Lib.hid hs0
  have HB := Lib.hid hb0
  clear hi0 hz0 hs0 hb0
  have heq := fun w A n c => Lib.run_eql_slice_nil (P := Try.prog) w 40 3 A n c 0 0 Try.underlying40
  rcases A with _ | ad
  · have h0 : l = [] := by
      cases l with
      | nil => rfl
      | cons p r => obtain ⟨ad, h, _⟩ := hr (by simp [iv]); cases h
    subst h0
    go_enter Try.func33, Try.ntmps33
    go_wp2
    go_ret
    exact ⟨none, 0, rfl, IOwn.nil _ _, Below.refl _ _⟩
  · go_enter Try.func33, Try.ntmps33
    go_wp2_with (at_builtin; refine wpList_clone_r rfl (.tmp 5) (.tmp 6) 40 rfl 3 i0 _ 1 8 Try.underlying40 HI.out HZ.out HS.out HB.out rfl (by decide) w.heap.size _ (heap_alloc_new _ _) (some ad) l.length c (iv l) (hr.below ((Below.refl _ _).alloc (Nat.le_refl _) _)) (by rw [iv_length, Nat.mul_one]) (iv_one l) hm (by decide) rfl rfl ?_; intro g c' w' hown hgr hg)
    go_ret
    exact ⟨_, _, rfl, ⟨hown, fun ad' e => by injection e with e; subst e; show w.heap.size ≤ g; simp at hg; omega⟩, ((Below.refl _ _).alloc (Nat.le_refl _) _).grown hgr (by simp) (fun k e => by injection e with e; omega)⟩
/-- The queue of a lock; none if there is no such lock. -/
def queueL (Q : List (List Int)) (id : Int) : List Int := if 0 ≤ id then qu Q id.toNat else []
theorem queue_bad {Q : List (List Int)} {id : Int} (h : hasL Q id = false) : queueL Q id = [] := by
  unfold queueL
  split
  · exact qu_out (by have := of_decide_eq_false h; omega)
  · rfl
section
variable {w0 w : World} {T G : Nat} {As : List (Option Addr × Nat)} {n : Int} {Q : List (List Int)}
theorem queue_calls (h : Tb w0 w T G As n Q) (id : Int) : Calls Try.prog 19 #[.pointer (some ⟨T, 0, none⟩), .int .i64 id] w (GivesI (queueL Q id) w) := by
  have ch := Lib.hid (has_calls h id)
  cases hb : hasL Q id with
  | false =>
    have kv := Lib.hid (queue_bad hb)
    rw [hb] at ch
    clear hb
    go_enter Try.func19, Try.ntmps19
    go_wp2_with (go_at_call 26; refine ch.out.mono ?_; rintro e w' ⟨rfl, rfl⟩)
    go_ret
    rw [kv.out]
    exact ⟨none, 0, rfl, IOwn.nil _ _, Below.refl _ _⟩
  | true =>
    rw [hb] at ch
    have hb := of_decide_eq_true hb
    obtain ⟨i, rfl⟩ := Int.eq_ofNat_of_zero_le hb.1
    have hi : i < Q.length := by omega
    have y1 := h.c1
    have yq := h.q.cell hi
    have hm := h.nm.l1
    have hl16 := h.nm.len i
    have HC := Lib.hid (clone_calls w (qA As i) (qu Q i) (qC As i) (h.q.row hi) (by omega))
    have kv : Hid (queueL Q (i : Int) = qu Q i) := by
      show _ = _
      unfold queueL
      rw [if_pos (by omega), Int.toNat_natCast]
    clear hb h
    generalize qu Q i = l at *
    obtain ⟨L, hL⟩ : ∃ L, l.length = L := ⟨_, rfl⟩
    rw [hL] at yq HC
    clear hL hl16
    generalize Q.length = m at *
    generalize qA As i = A at *
    generalize qC As i = C at *
    go_enter Try.func19, Try.ntmps19
    go_wp2_with (first | (go_at_call 26; refine ch.out.mono ?_; rintro e w' ⟨rfl, rfl⟩) | (go_at_call 33; refine HC.out.mono ?_; rintro e w' ⟨B, d, rfl, hO, hB⟩))
    go_ret
    rw [kv.out]
    exact ⟨B, d, rfl, hO, hB⟩
theorem queue_nil (w : World) (id : Int) : Calls Try.prog 19 #[.pointer none, .int .i64 id] w (GivesI [] w) := by
  have ch := Lib.hid (has_nil w id)
  go_enter Try.func19, Try.ntmps19
  go_wp2_with (go_at_call 26; refine ch.out.mono ?_; rintro e w' ⟨rfl, rfl⟩)
  go_ret
  exact ⟨none, 0, rfl, IOwn.nil _ _, Below.refl _ _⟩
/-- The first k locks that it holds. -/
def hkL (Q : List (List Int)) (p : Int) (k : Nat) : List Int := ni ((List.range k).filter fun i => decide (Hold Q p i))
theorem hk_len (Q : List (List Int)) (p : Int) (k : Nat) : (hkL Q p k).length ≤ k := by
  unfold hkL ni
  rw [List.length_map]
  exact Nat.le_trans (List.length_filter_le _ _) (by rw [List.length_range]; exact Nat.le_refl _)
theorem hk_yes {Q : List (List Int)} {p : Int} {k : Nat} (h : Hold Q p k) : hkL Q p (k + 1) = hkL Q p k ++ [(k : Int)] := by
  unfold hkL
  rw [holds_succ, if_pos h]
  simp [ni]
theorem hk_no {Q : List (List Int)} {p : Int} {k : Nat} (h : ¬ Hold Q p k) : hkL Q p (k + 1) = hkL Q p k := by
  unfold hkL
  rw [holds_succ, if_neg h, List.append_nil]
theorem head_hold {Q : List (List Int)} {p : Int} {k : Nat} : headO Q (k : Int) = some p ↔ Hold Q p k := by
  unfold headO Hold
  rw [if_pos (by omega), Int.toNat_natCast]
set_option maxRecDepth 100000 in
theorem holds_calls (h : Tb w0 w T G As n Q) (p : Int) : Calls Try.prog 18 #[.pointer (some ⟨T, 0, none⟩), .int .i64 p] w (GivesI (ni (holdsL Q p)) w) := by
  obtain ⟨i0, hi0, hz0, hs0, hb0⟩ := info_parts i64_info
  have HI := Lib.hid hi0
  have HZ := Lib.hid hz0
  have HS := Lib.hid hs0
  have HB := Lib.hid hb0
  clear hi0 hz0 hs0 hb0
  have HT := Lib.hid h
  have hm := h.nm.l1
  have y1 := h.c1
  obtain ⟨m, hM⟩ : ∃ m, Q.length = m := ⟨_, rfl⟩
  have KV : Hid (hkL Q p m = ni (holdsL Q p)) := Lib.hid (by rw [← hM]; rfl)
  rw [hM] at y1 hm
  clear h hM
  go_enter Try.func18, Try.ntmps18
  go_wp2_with (fail)
  go_loopw [5, 16] (fun out i wr => ∃ (j : Nat) (L : List Int) (n : Nat) (R : Option Addr) (cr : Nat), i = .int .i64 j ∧ j ≤ m ∧ out = .slice R n cr ∧ Hid (L.length = n) ∧ n ≤ j ∧ Hid (hkL Q p j = L) ∧ Hid (IOwn w.heap.size wr R cr L) ∧ Hid (Below w.heap.size w wr)) (fun _ i _ => m - (intOf i).toNat)
  case atStart => exact ⟨0, [], 0, none, 0, rfl, by omega, rfl, rfl, by omega, rfl, Lib.hid (IOwn.nil _ _), Lib.hid (Below.refl _ _)⟩
  case round =>
    obtain ⟨j, L, n', R, cr, rfl, hj, rfl, hn, hnj, hL, hO, HBr⟩ := hrel
    by_cases hjm : j < m
    · have hsz := Lib.hid HBr.out.size
      have CH := Lib.hid (holder_calls (HT.out.below HBr.out) (j : Int))
      unfold two at CH
      clear y1
      cases ho : headO Q (j : Int) with
      | none =>
        rw [ho] at CH
        have HS2 : Hid (hkL Q p (j + 1) = L) := Lib.hid (by
          rw [hk_no (fun hh => by rw [head_hold.2 hh] at ho; cases ho)]
          exact hL.out)
        clear ho
        go_wp2_with (go_at_call 20; refine CH.out.mono ?_; rintro e w' ⟨rfl, rfl⟩)
        go_roundw
        case rel => exact ⟨j + 1, L, n', R, cr, by go_num, by omega, rfl, hn, by omega, HS2, hO, HBr⟩
        case measure => simp [intOf]; omega
      | some x =>
        rw [ho] at CH
        by_cases hxp : x = p
        · subst hxp
          have HS2 : Hid (L ++ [(j : Int)] = hkL Q x (j + 1)) := Lib.hid (by
            rw [hk_yes (head_hold.1 ho), hL.out])
          clear ho
          go_wp2_with (first | (go_at_call 20; refine CH.out.mono ?_; rintro e w' ⟨rfl, rfl⟩) | (at_builtin; refine wpList_append_r rfl (.tmp 31) (.tmp 33) 40 rfl 3 i0 _ 1 8 Try.underlying40 HI.out HZ.out HS.out HB.out rfl R n' cr (iv L) rfl ((hO.out.two 0 _).at hn.out) ⟨wr.heap.size, 0, none⟩ 1 1 (iv [(j : Int)]) rfl rfl (cells_one (heap_alloc_new _ _)) (iv_one _) (by decide) (by unfold maxLen; omega) (by omega) ?_; intro g' c2 w1 hown2 hgr hg))
          have hst := (hO.out.two 0 _).step (by simp; have := hsz.out; omega) ((below_drewN HBr.out 0).alloc hsz.out _) hn.out hown2 hgr hg HS2.out
          go_roundw
          case rel => exact ⟨j + 1, _, n' + 1, _, c2, by go_num, by omega, rfl, hst.2.2, by omega, rfl, Lib.hid hst.1, Lib.hid hst.2.1⟩
          case measure => simp [intOf]; omega
        · have hxp2 : (x == p) = false := by simpa using hxp
          have HS2 : Hid (hkL Q p (j + 1) = L) := Lib.hid (by
            rw [hk_no (fun hh => by rw [head_hold.2 hh] at ho; injection ho with ho; exact hxp ho.symm)]
            exact hL.out)
          clear ho hxp
          go_wp2_with (go_at_call 20; refine CH.out.mono ?_; rintro e w' ⟨rfl, rfl⟩)
          go_roundw
          case rel => exact ⟨j + 1, L, n', R, cr, by go_num, by omega, rfl, hn, by omega, HS2, hO, HBr⟩
          case measure => simp [intOf]; omega
    · obtain rfl : j = m := by omega
      go_wp2_with (fail)
      go_ret
      refine ⟨R, cr, ?_, ?_, HBr.out⟩
      · rw [← KV.out, hL.out, hn.out]
        rfl
      · rw [← KV.out, hL.out]
        exact hO.out
theorem holds_nil (w : World) (p : Int) : Calls Try.prog 18 #[.pointer none, .int .i64 p] w (GivesI [] w) := by
  go_enter Try.func18, Try.ntmps18
  go_wp2_with (fail)
  go_ret
  exact ⟨none, 0, rfl, IOwn.nil _ _, Below.refl _ _⟩
end
end Go.Proofs.Ythlodfahajaneaa
