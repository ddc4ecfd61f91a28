/- The document's New and Free. -/
import Derived.Test.YthlodfahajaneaaKl
import Derived.Test.YthlodfahajaneaaKi
set_option linter.unusedSimpArgs false
set_option linter.unusedVariables false
namespace Go.Proofs.Ythlodfahajaneaa
open Go Go.RowKit LockMath Go.Shelf
theorem rnew_bad (a b : Int) (w : World) (h : mayT a b = false) :
    Calls Try.prog 10 #[.int .i64 a, .int .i64 b] w fun e w' => e = .returned (.pointer none) ∧ w = w' := by
  have h := of_decide_eq_false h
  by_cases h1 : a < 1
  · go_enter Try.func10, Try.ntmps10
    go_wp2
    go_ret
    exact ⟨rfl, rfl⟩
  · by_cases h2 : 128 < a
    · go_enter Try.func10, Try.ntmps10
      go_wp2
      go_ret
      exact ⟨rfl, rfl⟩
    · by_cases h3 : b < 1
      · go_enter Try.func10, Try.ntmps10
        go_wp2
        go_ret
        exact ⟨rfl, rfl⟩
      · have h4 : 16 < b := by omega
        clear h
        go_enter Try.func10, Try.ntmps10
        go_wp2
        go_ret
        exact ⟨rfl, rfl⟩
theorem rnew_calls (m : Nat) (b : Int) (w : World) (h : mayT (m : Int) b = true) :
    Calls Try.prog 10 #[.int .i64 (m : Int), .int .i64 b] w fun e w' => ∃ T G, e = .returned (.pointer (some ⟨T, 0, none⟩)) ∧ Rb w w' T G (List.replicate m (none, 0)) b (List.replicate m []) ∧ Below w.heap.size w w' := by
  have h := of_decide_eq_true h
  have h1 : 1 ≤ (m : Int) := by omega
  have h2 : (m : Int) ≤ 128 := by omega
  have h3 : 1 ≤ b := by omega
  have h4 : b ≤ 16 := by omega
  have hmk := run_make_row' (P := Try.prog) 47 40 (.slice none 0 0) 24 Try.underlying47 slices_info rfl .i64 .i64 m (by omega) (by omega)
  clear h
  go_enter Try.func10, Try.ntmps10
  go_wp2
  go_ret
  have hb : Below w.heap.size w (w.alloc (.cells (madeCells #[.slice none 0 0] m) 40)) := (Below.refl _ _).alloc (Nat.le_refl _) _
  refine ⟨w.heap.size + 1, w.heap.size, rfl, ⟨⟨?_, ?_, by omega, by decide, by decide⟩, Nm.start (by omega) (by omega) h3 h4⟩, hb.alloc hb.size _⟩
  · rw [List.length_replicate]
    have := heap_alloc_new (w.alloc (.cells (madeCells #[.slice none 0 0] m) 40)) (.cells #[.slice (some ⟨w.heap.size, 0, none⟩) m m, .int .i64 b] 51)
    simpa using this
  · refine Qm.start (by decide) (Nat.le_refl _) (cur := madeCells #[.slice none 0 0] m) ?_ fun i hi => ?_
    · exact (Below.heap_alloc _ _ _ (by simp)).trans (heap_alloc_new w _)
    · simp [madeCells, hi, Nat.mod_one]
theorem off_take {p : Int} {l : List Int} {j : Nat} (hj : j < l.length) : offQ p (l.take (j + 1)) = if l.getD j 0 = p then offQ p (l.take j) else offQ p (l.take j) ++ [l.getD j 0] := by
  rw [List.take_add_one, List.getD_eq_getElem?_getD, List.getElem?_eq_getElem hj]
  unfold offQ
  rw [List.filter_append]
  by_cases h : l[j] = p
  · simp [h]
  · simp [h]
section
variable {w0 w : World} {T G : Nat} {As : List (Option Addr × Nat)} {n : Int} {Q : List (List Int)}
/-- What Free leaves. -/
def RFreeP (w0 w : World) (T G : Nat) (As : List (Option Addr × Nat)) (n : Int) (er : Int) (Q' : List (List Int)) (e : Ending) (w' : World) : Prop :=
  e = .returned (.int .i64 er) ∧ ∃ As', Rb w0 w' T G As' n Q' ∧ Tn w w' T G As As'
set_option maxRecDepth 100000 in
set_option maxHeartbeats 1000000 in
theorem rfree_calls (h : Rb w0 w T G As n Q) (hw0 : w0.heap.size ≤ w.heap.size) (p : Int) :
    Calls Try.prog 12 #[.pointer (some ⟨T, 0, none⟩), .int .i64 p] w (RFreeP w0 w T G As n (freeE n p) (freeQ' Q n p)) := by
  have CH := Lib.hid (rhas_calls h p)
  cases hp : hasP n p with
  | false =>
    obtain ⟨e1, e2⟩ := free_no (Q := Q) hp
    rw [e1, e2]
    rw [hp] at CH
    have HT := Lib.hid h
    clear h hp e1 e2
    go_enter Try.func12, Try.ntmps12
    go_wp2_with (go_at_call 25; refine CH.out.mono ?_; rintro e w' ⟨rfl, rfl⟩)
    go_ret
    exact ⟨rfl, As, HT.out, Tn.refl⟩
  | true =>
    obtain ⟨e1, e2⟩ := free_yes (Q := Q) hp
    rw [e1, e2]
    rw [hp] at CH
    obtain ⟨i0, hi0, hz0, hs0, hb0⟩ := info_parts i64_info
    have HI := Lib.hid hi0
    have HZ := Lib.hid hz0
    have HS := Lib.hid hs0
    have HB := Lib.hid hb0
    obtain ⟨m, hM⟩ : ∃ m, Q.length = m := ⟨_, rfl⟩
    have HM := Lib.hid hM
    have hm := h.nm.l1
    rw [hM] at hm
    have HNM := Lib.hid h.nm
    have HNF := Lib.hid (h.nm.free p)
    have HT0 : Hid (Tg w0 w 51 (#[.slice (some ⟨G, 0, none⟩) m m, .int .i64 n]) T G As (fk Q p 0)) := Lib.hid (by
      have h1 := h.tg
      rw [hM] at h1
      rw [fk_zero]; exact h1)
    clear h hp e1 e2 hM hi0 hz0 hs0 hb0
    go_enter Try.func12, Try.ntmps12
    go_wp2_with (go_at_call 25; refine CH.out.mono ?_; rintro e w' ⟨rfl, rfl⟩)
    go_loopg [5] m (fun g s5 wx => ∃ (k : Nat) (As' : List (Option Addr × Nat)), k + g = m ∧ s5 = .int .i64 k ∧ Hid (Tg w0 wx 51 (#[.slice (some ⟨G, 0, none⟩) m m, .int .i64 n]) T G As' (fk Q p k)) ∧ Hid (Tn w wx T G As As'))
    case atStart => exact ⟨0, As, by omega, rfl, HT0, Lib.hid Tn.refl⟩
    case round =>
      obtain ⟨k, As', hkg, rfl, HT, HN⟩ := hrel
      have y0 : wr.cell? ⟨T, 0, none⟩ = some (.slice (some ⟨G, 0, none⟩) m m) := cell_of_row wr T 0 _ _ _ HT.out.blk
      cases gk with
      | zero =>
        obtain rfl : k = m := by omega
        go_wp2_with (fail)
        go_ret
        have h2 := HT.out
        rw [← HM.out, fk_all] at h2
        exact ⟨rfl, As', h2.rb (by rw [free_len]) HNF.out, HN.out⟩
      | succ g =>
        have hkm : k < m := by omega
        have hkm2 : (k : Int) < (m : Int) := by omega
        have HKQ : Hid (k < Q.length) := Lib.hid (by rw [HM.out]; exact hkm)
        have hkF : Hid (k < (fk Q p k).length) := Lib.hid (by rw [fk_len]; exact HKQ.out)
        obtain ⟨l, hl⟩ : ∃ l, qu Q k = l := ⟨_, rfl⟩
        have hl16 := HNM.out.len k
        rw [hl] at hl16
        have hql : Hid (qu (fk Q p k) k = l) := Lib.hid (by rw [fk_qu (Nat.le_of_lt HKQ.out), if_neg (Nat.lt_irrefl _)]; exact hl)
        have HL := Lib.hid hl
        obtain ⟨N, hN⟩ : ∃ N, l.length = N := ⟨_, rfl⟩
        have HNL := Lib.hid hN
        rw [hN] at hl16
        obtain ⟨A, hA⟩ : ∃ A, qA As' k = A := ⟨_, rfl⟩
        have HA := Lib.hid hA
        obtain ⟨C, hC⟩ : ∃ C, qC As' k = C := ⟨_, rfl⟩
        have HC := Lib.hid hC
        have HW0 := Lib.hid (Nat.le_trans hw0 HN.out.only.size)
        clear hl hN hA hC
        generalize hwI : wr = wI at *
        clear hwI
        go_wp2_with (fail)
        clear y0
        go_loopg [6, 7] N (fun g2 s6 s7 wx => ∃ (j : Nat) (L : List Int) (n' : Nat) (R : Option Addr) (cr : Nat), j + g2 = N ∧ s7 = .int .i64 j ∧ s6 = .slice R n' cr ∧ Hid (L.length = n') ∧ n' ≤ j ∧ Hid (offQ p (l.take j) = L) ∧ Hid (IOwn wI.heap.size wx R cr L) ∧ Hid (Below wI.heap.size wI wx))
        case atStart => exact ⟨0, [], 0, none, 0, by omega, rfl, rfl, rfl, by omega, rfl, Lib.hid (IOwn.nil _ _), Lib.hid (Below.refl _ _)⟩
        case round =>
          obtain ⟨j, L, n', R, cr, hjg, rfl, rfl, hn, hnj, hL, hO, hBr⟩ := hrel
          have hTr := HT.out.below hBr.out
          have y0 : wr.cell? ⟨T, 0, none⟩ = some (.slice (some ⟨G, 0, none⟩) m m) := cell_of_row wr T 0 _ _ _ hTr.blk
          have yq := hTr.q.cell hkF.out
          rw [hql.out, HNL.out, HA.out, HC.out] at yq
          have hfz := hTr.q.frozen k
          have hsz := Lib.hid hBr.out.size
          cases gk with
          | zero =>
            obtain rfl : j = N := by omega
            have HLL : Hid (offQ p (qu Q k) = L) := Lib.hid (by
              rw [HL.out, ← hL.out, ← HNL.out, List.take_length])
            obtain ⟨k1, k2⟩ := HT.out.put hkF.out (F := fun _ => False) (Only.of_below _ hBr.out) (fun k hf => hf.elim) hn.out.symm HW0.out (hO.out.at hn.out) (.inr fun ad e => hO.out.2 ad e)
            rw [← HLL.out, ← fk_succ HKQ.out] at k1
            have K1 := Lib.hid k1
            have K2 := Lib.hid (HN.out.trans k2)
            clear k1 k2 hTr
            go_wp2_with (fail)
            go_roundg g
            case measure => omega
            case rel => exact ⟨k + 1, _, by omega, by go_num, K1, K2⟩
          | succ g2 =>
            have hjN : j < N := by omega
            have hjN2 : (j : Int) < (N : Int) := by omega
            obtain ⟨gb, hgb, yc⟩ := hTr.q.at hkF.out (k := j) (by rw [hql.out, HNL.out]; exact hjN)
            rw [hql.out] at yc
            rw [HA.out] at hgb
            subst hgb
            have hs := off_take (p := p) (l := l) (j := j) (by rw [HNL.out]; exact hjN)
            rw [hL.out] at hs
            generalize l.getD j 0 = x at *
            by_cases hxp : x = p
            · subst hxp
              rw [if_pos rfl] at hs
              have HS2 := Lib.hid hs
              clear hs hTr
              go_wp2_with (fail)
              go_roundg g2
              case measure => omega
              case rel => exact ⟨j + 1, L, n', R, cr, by omega, by go_num, rfl, hn, by omega, HS2, hO, hBr⟩
            · rw [if_neg hxp] at hs
              have HS2 := Lib.hid hs.symm
              have hxp2 : (x != p) = true := by rw [bne_iff_ne]; exact hxp
              clear hs hTr hxp
              go_wp2_with (at_builtin; refine wpList_append_r rfl (.tmp 45) (.tmp 56) 40 rfl 3 i0 _ 1 8 Try.underlying40 HI.out HZ.out HS.out HB.out rfl R n' cr (iv L) rfl ((hO.out.two 0 _).at hn.out) ⟨wr.heap.size, 0, none⟩ 1 1 (iv [x]) rfl rfl (cells_one (heap_alloc_new _ _)) (iv_one _) (by decide) (by unfold maxLen; omega) (by omega) ?_; intro g' c2 w1 hown2 hgr hg)
              have hst := (hO.out.two 0 _).step (by simp; have := hsz.out; omega) ((below_drewN hBr.out 0).alloc hsz.out _) hn.out hown2 hgr hg HS2.out
              go_roundg g2
              case measure => omega
              case rel => exact ⟨j + 1, _, n' + 1, _, c2, by omega, by go_num, rfl, hst.2.2, by omega, rfl, Lib.hid hst.1, Lib.hid hst.2.1⟩
end
end Go.Proofs.Ythlodfahajaneaa
