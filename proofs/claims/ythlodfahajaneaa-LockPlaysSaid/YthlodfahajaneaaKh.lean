/- The document's table: which processes there are, what one holds, for which lock it waits. -/
import Derived.Test.YthlodfahajaneaaKg
set_option linter.unusedSimpArgs false
set_option linter.unusedVariables false
namespace Go.Proofs.Ythlodfahajaneaa
open Go Go.RowKit LockMath Go.Shelf
section
variable {w0 w : World} {T G : Nat} {As : List (Option Addr × Nat)} {n : Int} {Q : List (List Int)}
theorem rhas_calls (h : Rb w0 w T G As n Q) (p : Int) : Calls Try.prog 25 #[.pointer (some ⟨T, 0, none⟩), .int .i64 p] w fun e w' => e = .returned (.bool (hasP n p)) ∧ w = w' := by
  have y1 := h.c1
  have hu : hasP n p = decide (0 ≤ p ∧ p < n) := rfl
  generalize hasP n p = r at *
  by_cases h0 : 0 ≤ p
  · have kv : Hid (r = decide (p < n)) := by
      show _ = _
      rw [hu]; simp [h0]
    clear hu
    go_enter Try.func25, Try.ntmps25
    go_wp2
    go_ret
    rw [kv.out]
    exact ⟨rfl, rfl⟩
  · have kv : Hid (r = false) := by
      show _ = _
      rw [hu]; simp [h0]
    clear hu
    have h2 : decide (0 ≤ p) = false := by simp; omega
    go_enter Try.func25, Try.ntmps25
    go_wp2
    go_ret
    rw [kv.out]
    exact ⟨rfl, rfl⟩
/-- The first element of a queue; its length. -/
theorem head_get {l : List Int} : l.head? = if 0 < l.length then some (l.getD 0 0) else none := by
  cases l with
  | nil => rfl
  | cons a r => simp
set_option maxRecDepth 100000 in
theorem rholds_calls (h : Rb w0 w T G As n Q) (p : Int) : Calls Try.prog 29 #[.pointer (some ⟨T, 0, none⟩), .int .i64 p] w (GivesI (ni (holdsL Q p)) w) := by
  obtain ⟨i0, hi0, hz0, hs0, hb0⟩ := info_parts i64_info
  have HI := Lib.hid hi0
  have HZ := Lib.hid hz0
  have HS := Lib.hid hs0
  have HB := Lib.hid hb0
  clear hi0 hz0 hs0 hb0
  have HT := Lib.hid h
  have hm := h.nm.l1
  obtain ⟨m, hM⟩ : ∃ m, Q.length = m := ⟨_, rfl⟩
  have HM := Lib.hid hM
  have KV : Hid (hkL Q p m = ni (holdsL Q p)) := Lib.hid (by rw [← hM]; rfl)
  rw [hM] at hm
  clear h hM
  go_enter Try.func29, Try.ntmps29
  go_wp2_with (fail)
  go_loopw [5, 6] (fun out i wr => ∃ (j : Nat) (L : List Int) (n : Nat) (R : Option Addr) (cr : Nat), i = .int .i64 j ∧ j ≤ m ∧ out = .slice R n cr ∧ Hid (L.length = n) ∧ n ≤ j ∧ Hid (hkL Q p j = L) ∧ Hid (IOwn w.heap.size wr R cr L) ∧ Hid (Below w.heap.size w wr)) (fun _ i _ => m - (intOf i).toNat)
  case atStart => exact ⟨0, [], 0, none, 0, rfl, by omega, rfl, rfl, by omega, rfl, Lib.hid (IOwn.nil _ _), Lib.hid (Below.refl _ _)⟩
  case round =>
    obtain ⟨j, L, n', R, cr, rfl, hj, rfl, hn, hnj, hL, hO, HBr⟩ := hrel
    have hTr := HT.out.below HBr.out
    have y0 := hTr.c0
    rw [HM.out] at y0
    by_cases hjm : j < m
    · have hjm2 : (j : Int) < (m : Int) := by omega
      have hsz := Lib.hid HBr.out.size
      have hjQ : j < Q.length := by rw [HM.out]; exact hjm
      have yq := hTr.tg.q.cell hjQ
      have hl16 := hTr.nm.len j
      have hd : headO Q (j : Int) = if 0 < (qu Q j).length then some ((qu Q j).getD 0 0) else none := by
        unfold headO
        rw [if_pos (by omega), Int.toNat_natCast, head_get]
      by_cases hl0 : 0 < (qu Q j).length
      · obtain ⟨g, hA, y2⟩ := hTr.tg.q.at hjQ hl0
        rw [if_pos hl0] at hd
        rw [hA] at yq
        generalize (qu Q j).getD 0 0 = x at *
        obtain ⟨N, hN⟩ : ∃ N, (qu Q j).length = N := ⟨_, rfl⟩
        rw [hN] at yq hl0 hl16
        have hl1 : (0 : Int) < (N : Int) := by omega
        generalize qC As j = C at *
        clear hTr hA hN
        by_cases hxp : x = p
        · subst hxp
          have HS2 : Hid (L ++ [(j : Int)] = hkL Q x (j + 1)) := Lib.hid (by
            rw [hk_yes (head_hold.1 hd), hL.out])
          clear hd
          go_wp2_with (at_builtin; refine wpList_append_r rfl (.tmp 38) (.tmp 40) 40 rfl 3 i0 _ 1 8 Try.underlying40 HI.out HZ.out HS.out HB.out rfl R n' cr (iv L) rfl ((hO.out.two 0 _).at hn.out) ⟨wr.heap.size, 0, none⟩ 1 1 (iv [(j : Int)]) rfl rfl (cells_one (heap_alloc_new _ _)) (iv_one _) (by decide) (by unfold maxLen; omega) (by omega) ?_; intro g' c2 w1 hown2 hgr hg)
          have hst := (hO.out.two 0 _).step (by simp; have := hsz.out; omega) ((below_drewN HBr.out 0).alloc hsz.out _) hn.out hown2 hgr hg HS2.out
          go_roundw
          case rel => exact ⟨j + 1, _, n' + 1, _, c2, by go_num, by omega, rfl, hst.2.2, by omega, rfl, Lib.hid hst.1, Lib.hid hst.2.1⟩
          case measure => simp [intOf]; omega
        · have hxp2 : (x == p) = false := by simpa using hxp
          have HS2 : Hid (hkL Q p (j + 1) = L) := Lib.hid (by
            rw [hk_no (fun hh => by rw [head_hold.2 hh] at hd; injection hd with hd; exact hxp hd.symm)]
            exact hL.out)
          clear hd hxp
          go_wp2_with (fail)
          go_roundw
          case rel => exact ⟨j + 1, L, n', R, cr, by go_num, by omega, rfl, hn, by omega, HS2, hO, HBr⟩
          case measure => simp [intOf]; omega
      · rw [if_neg hl0] at hd
        have hN : (qu Q j).length = 0 := by omega
        rw [hN] at yq
        generalize qA As j = A at *
        generalize qC As j = C at *
        have HS2 : Hid (hkL Q p (j + 1) = L) := Lib.hid (by
          rw [hk_no (fun hh => by rw [head_hold.2 hh] at hd; cases hd)]
          exact hL.out)
        clear hd hl0 hN hTr
        go_wp2_with (fail)
        go_roundw
        case rel => exact ⟨j + 1, L, n', R, cr, by go_num, by omega, rfl, hn, by omega, HS2, hO, HBr⟩
        case measure => simp [intOf]; omega
    · obtain rfl : j = m := by omega
      clear hTr
      go_wp2_with (fail)
      go_ret
      refine ⟨R, cr, ?_, ?_, HBr.out⟩
      · rw [← KV.out, hL.out, hn.out]
        rfl
      · rw [← KV.out, hL.out]
        exact hO.out
set_option maxRecDepth 100000 in
theorem rwaits_calls (h : Rb w0 w T G As n Q) (p : Int) : Calls Try.prog 30 #[.pointer (some ⟨T, 0, none⟩), .int .i64 p] w fun e w' => e = .returned (twoN (waitsF Q p)) ∧ w = w' := by
  rw [← seek_waits]
  have HT := Lib.hid h
  have y0 := h.c0
  have hm := h.nm.l1
  obtain ⟨m, hM⟩ : ∃ m, Q.length = m := ⟨_, rfl⟩
  have HM := Lib.hid hM
  rw [hM] at y0 hm
  clear h hM
  go_enter Try.func30, Try.ntmps30
  go_wp2_with (fail)
  go_loopg [6] m (fun g s6 wx => ∃ k : Nat, k + g = m ∧ s6 = .int .i64 k ∧ Hid (∀ j, j < k → atB (qu Q j) p (waitF j) = false) ∧ w = wx)
  case atStart => exact ⟨0, by omega, rfl, Lib.hid (fun j hj => absurd hj (Nat.not_lt_zero _)), rfl⟩
  case round =>
    obtain ⟨k, hkg, rfl, hK, rfl⟩ := hrel
    cases gk with
    | zero =>
      have hkm : k = m := by omega
      subst hkm
      have hS : Hid (seekF Q p waitF = none) := by
        show _ = _
        unfold seekF
        rw [HM.out]
        exact find_miss hK.out
      go_wp2_with (fail)
      go_ret2
      rw [hS.out]
      exact ⟨rfl, rfl⟩
    | succ g =>
      have hkm : k < m := by omega
      have hkm2 : (k : Int) < (m : Int) := by omega
      have hkQ : k < Q.length := by rw [HM.out]; exact hkm
      have yq := HT.out.tg.q.cell (i := k) hkQ
      have hl16 := HT.out.nm.len k
      obtain ⟨l, hl⟩ : ∃ l, qu Q k = l := ⟨_, rfl⟩
      have HL := Lib.hid hl
      have hAT : Hid (∀ j, j < l.length → ∃ g, qA As k = some ⟨g, 0, none⟩ ∧ w.cell? ⟨g, j, none⟩ = some (.int .i64 (l.getD j 0))) := by
        have := fun j hj => HT.out.tg.q.at (i := k) (k := j) hkQ hj
        rw [hl] at this
        exact this
      rw [hl] at yq hl16
      clear hl
      obtain ⟨L, hL⟩ : ∃ L, l.length = L := ⟨_, rfl⟩
      have HLL := Lib.hid hL
      rw [hL] at yq hl16
      clear hL
      obtain ⟨A, hA⟩ : ∃ A, qA As k = A := ⟨_, rfl⟩
      have HA := Lib.hid hA
      rw [hA] at yq
      clear hA
      generalize qC As k = C at *
      go_wp2_with (fail)
      go_loopg [7] L (fun g2 s7 wx => ∃ j : Nat, L ≤ j + g2 ∧ 1 ≤ j ∧ j ≤ 17 ∧ s7 = .int .i64 j ∧ Hid (∀ i, i < j → ((l.getD i 0 == p) && waitF k i) = false) ∧ w = wx)
      case atStart => exact ⟨1, by omega, by omega, by omega, rfl, Lib.hid (fun i hi => by
        obtain rfl : i = 0 := by omega
        simp [waitF]), rfl⟩
      case round =>
        obtain ⟨j, hjg, hj1, hj17, rfl, hJ, rfl⟩ := hrel
        by_cases hjL : j < L
        · obtain ⟨g2, rfl⟩ : ∃ g2, gk = g2 + 1 := ⟨gk - 1, by omega⟩
          have hjL2 : (j : Int) < (L : Int) := by omega
          obtain ⟨gb, hgb, yc⟩ := hAT.out j (by rw [HLL.out]; exact hjL)
          rw [HA.out] at hgb
          subst hgb
          obtain ⟨x, hx⟩ : ∃ x, l.getD j 0 = x := ⟨_, rfl⟩
          have HX := Lib.hid hx
          rw [hx] at yc
          clear hx
          by_cases hxp : x = p
          · subst hxp
            have hS : Hid (seekF Q x waitF = some k) := by
              show _ = _
              unfold seekF
              refine find_hit (by rw [HM.out]; exact hkm) ?_ hK.out
              rw [HL.out]
              exact at_hit (by rw [HLL.out]; exact hjL) (by rw [HX.out]; simp [waitF]; omega)
            go_wp2_with (fail)
            go_ret2
            rw [hS.out]
            exact ⟨rfl, rfl⟩
          · have hxp2 : (x == p) = false := by simpa using hxp
            have hJ2 : Hid (∀ i, i < j + 1 → ((l.getD i 0 == p) && waitF k i) = false) := Lib.hid (fun i hi => by
              rcases Nat.lt_or_ge i j with h1 | h1
              · exact hJ.out i h1
              · obtain rfl : i = j := by omega
                rw [HX.out, hxp2, Bool.false_and])
            clear hxp
            go_wp2_with (fail)
            go_roundg g2
            case measure => omega
            case rel => exact ⟨j + 1, by omega, by omega, by omega, by go_num, hJ2, rfl⟩
        · have hjL2 : ¬ ((j : Int) < (L : Int)) := by omega
          have hM2 : Hid (∀ i, i < k + 1 → atB (qu Q i) p (waitF i) = false) := Lib.hid (fun i hi => by
            rcases Nat.lt_or_ge i k with h1 | h1
            · exact hK.out i h1
            · obtain rfl : i = k := by omega
              rw [HL.out]
              exact at_miss (by rw [HLL.out]; exact fun i hi => hJ.out i (by omega)))
          go_wp2_with (fail)
          go_roundg g
          case measure => omega
          case rel => exact ⟨k + 1, by omega, by go_num, hM2, rfl⟩
end
end Go.Proofs.Ythlodfahajaneaa
