/- Words behind a list that is stored: the program's Apply, the document's own. -/
import Derived.Test.YtlfpjfijlngpcaaDoorYc
import Derived.Laws.CopyOwn
import Derived.StillTailTactics
set_option linter.unusedSimpArgs false
set_option linter.unusedVariables false
namespace Go.Proofs.YtlfpjfijlngpcaaDoor
open Go.RowKit SumMath WordMath
theorem u64_size : (Tryd.prog.info? 26).map (·.size) = some 1 := by kernel_rfl
def CopyFrom (w1 : World) (A : Option Addr) (l : List Nat) (d : Option Addr) : Prop :=
    0 < (wv l).length → d = d ∧ ∃ ad, A = some ad ∧ ∀ j v, (wv l)[j]? = some v → w1.cell? (ad.add j) = some v
theorem copy_from {w w1 : World} {A : Option Addr} {l : List Nat} (d : Option Addr) (hr : Row w A l) (hb : Below w.heap.size w w1) : CopyFrom w1 A l d := by
  intro hp
  rw [wv_length] at hp
  obtain ⟨ad, e, _, hc⟩ := hr.below hb hp
  refine ⟨rfl, ad, e, fun j v hv => ?_⟩
  have hj : j < l.length := by
    rcases Nat.lt_or_ge j l.length with h | h
    · exact h
    · rw [List.getElem?_eq_none (by rw [wv_length]; exact h)] at hv; cases hv
  rw [wv_get l j hj] at hv
  rw [hc j hj]; exact hv
theorem splice_all (l : List Nat) (n : Nat) (h : l.length = n) : splice (wv (List.replicate n 0)) 0 (wv l) = wv l := by
  simp [splice, wv, ← h]
theorem blk_spliced {w1 : World} {g : Nat} {e : TypeId} {l : List Nat} (h : Hid (w1.heap[g]? = some (.cells (splice (wv (List.replicate l.length 0)) 0 (wv l)).toArray e (0, 0)))) : Blk e w1 g l := by
  have := h.out
  rw [splice_all l _ rfl] at this
  exact this

/-- What Apply answers. -/
def appR (l : List Nat) (L : List Re) : List Nat := if appE l L = 0 then appL l L else []
theorem appR_yes {l : List Nat} {L : List Re} (h : appE l L = 0) : appR l L = appL l L := if_pos h
theorem appR_no {l : List Nat} {L : List Re} (h : appE l L ≠ 0) : appR l L = [] := if_neg h
def ApplyP (l : List Nat) (L : List Re) (w : World) (e : Ending) (w' : World) : Prop :=
  ∃ R cr, e = .returned (.tuple #[.slice R (appR l L).length cr, .int .i64 (appE l L)]) ∧ Row w' R (appR l L) ∧ Below w.heap.size w w'
theorem ApplyP.no {l : List Nat} {L : List Re} {w w' : World} (h : appE l L = 2) (hb : Below w.heap.size w w') : ApplyP l L w (.returned (.tuple #[.slice none 0 0, .int .i64 2])) w' := by
  have h1 : appE l L ≠ 0 := by rw [h]; decide
  refine ⟨none, 0, ?_, ?_, hb⟩
  · rw [appR_no h1, h]; rfl
  · rw [appR_no h1]; exact Row.nil _ _
theorem ApplyP.yes {l : List Nat} {L : List Re} {w w' : World} {R : Option Addr} {m cr : Nat} (h : appE l L = 0) (hm : l.length = m) (hr : Row w' R (appL l L)) (hb : Below w.heap.size w w') : ApplyP l L w (.returned (.tuple #[.slice R m cr, .int .i64 0])) w' := by
  refine ⟨R, cr, ?_, ?_, hb⟩
  · rw [appR_yes h, h, app_len, hm]
  · rw [appR_yes h]; exact hr
def InTo (L : List Re) (n k : Nat) : Prop := ∀ j, j < k → 0 ≤ (L.getD j re0).pos ∧ (L.getD j re0).pos < (n : Int)
theorem InTo.more {L : List Re} {n k : Nat} (h : InTo L n k) (e : 0 ≤ (L.getD k re0).pos ∧ (L.getD k re0).pos < (n : Int)) : InTo L n (k + 1) := fun j hj => by
  by_cases h1 : j < k
  · exact h j h1
  · obtain rfl : j = k := by omega
    exact e
theorem appE_ok {l : List Nat} {L : List Re} (h : InTo L l.length L.length) : appE l L = 0 := by
  unfold appE
  rw [if_pos]
  rw [List.all_eq_true]
  intro e he
  obtain ⟨k, hk, rfl⟩ := List.getElem_of_mem he
  have := h k hk
  rw [List.getD_eq_getElem?_getD, List.getElem?_eq_getElem hk] at this
  exact decide_eq_true this
theorem appE_bad {l : List Nat} {L : List Re} {k : Nat} (hk : k < L.length) (hb : ¬ (0 ≤ (L.getD k re0).pos ∧ (L.getD k re0).pos < (l.length : Int))) : appE l L = 2 := by
  unfold appE
  rw [if_neg]
  rw [List.all_eq_true]
  intro ha
  have := ha (L.getD k re0) (by rw [List.getD_eq_getElem?_getD, List.getElem?_eq_getElem hk]; exact List.getElem_mem hk)
  exact hb (of_decide_eq_true this)
theorem app_more {l : List Nat} {L : List Re} {k : Nat} (h : k < L.length) : appL l (L.take (k + 1)) = (appL l (L.take k)).set (L.getD k re0).pos.toNat (L.getD k re0).word := by
  rw [take_more h, app_snoc]
set_option maxRecDepth 100000 in
set_option maxHeartbeats 1000000 in
theorem apply_calls (W : Option Addr) (l : List Nat) (d : Nat) (A : Option Addr) (L : List Re) (c : Nat) (w : World) (hr : Row w W l) (hll : l.length ≤ 1048576) (ha : Cel w A (ev L)) (hlen : L.length ≤ 1099511627776) :
    Calls Tryd.prog 17 #[.slice W l.length d, .slice A L.length c] w (ApplyP l L w) := by
  have hmk := run_make_row' (P := Tryd.prog) 25 26 (.int .u64 0) 8 Tryd.underlying25 u64_info rfl .i64 .i64 l.length (by omega) (by omega)
  have hcop := (copy_from (w := w) (w1 := w.alloc (.cells (madeCells #[.int .u64 0] l.length) 26)) (some ⟨w.heap.size, 0, none⟩) hr ((Below.refl _ _).alloc (Nat.le_refl _) _))
  obtain ⟨n, hLn⟩ : ∃ n, L.length = n := ⟨_, rfl⟩
  have HL := Lib.hid hLn
  rw [hLn]
  rw [hLn] at hlen
  clear hLn
  go_enter Tryd.func17, Tryd.ntmps17
  go_wp2_with (refine wpList_copy_splice rfl (.tmp 12) (.tmp 13) 25 25 rfl 26 Tryd.underlying25 u64_size (some ⟨w.heap.size, 0, none⟩) W l.length l.length l.length d rfl rfl w.heap.size 0 (wv (List.replicate l.length 0)) 26 (Blk.new w 26 l.length) (wv l) (by simp [wv_length]) hcop (by simp [wv_length]) (wv_one l) w.heap.size w ((Below.refl _ _).alloc (Nat.le_refl _) _) (Nat.le_refl _) ?_; intro w1 hg1 hb1; have hB1 := blk_spliced hg1; clear hg1)
  obtain ⟨N, hN⟩ : ∃ N, l.length = N := ⟨_, rfl⟩
  have HN := Lib.hid hN
  have hbb := hb1
  obtain ⟨B, hBe⟩ : ∃ B, w.heap.size = B := ⟨_, rfl⟩
  have HBE := Lib.hid hBe
  rw [hBe] at hB1
  have HB1 := Lib.hid hB1
  clear hmk hcop hr hb1 hB1
  rw [hN]
  rw [hN] at hll
  rw [hBe]
  clear hN hBe
  go_loopw [17] (fun i wr => ∃ (k : Nat) (X : List Nat), i = .int .i64 k ∧ k ≤ n ∧ Hid (appL l (L.take k) = X) ∧ Hid (X.length = N) ∧ Hid (Blk 26 wr B X) ∧ Below w.heap.size w wr ∧ Hid (InTo L N k)) (fun i _ => n - (intOf i).toNat)
  case atStart => exact ⟨0, l, rfl, by omega, rfl, HN, HB1, hbb, Lib.hid (fun j hj => absurd hj (by omega))⟩
  case round =>
    obtain ⟨k, X, rfl, hk, hX, hXN, hO, hBr, hs⟩ := hrel
    by_cases h1 : k < n
    · have har := ha.below hBr
      obtain ⟨b1, o1, rfl, hlb, hca⟩ := har.re (by rw [HL.out]; omega)
      obtain ⟨e1, e2⟩ := hca k (by rw [HL.out]; exact h1)
      have hL1 : k < L.length := by rw [HL.out]; exact h1
      have hbm := app_more (l := l) hL1
      have HBR := Lib.hid hBr
      have hsz := hBr.size
      have hBlt := hO.out.lt
      clear hca har hBr
      by_cases hp0 : (L.getD k re0).pos < 0
      · have KV := Lib.hid (appE_bad (l := l) hL1 (by omega))
        clear hL1 hbm
        generalize (L.getD k re0).pos = p at *
        generalize (L.getD k re0).word = x at *
        go_wp2_with (fail)
        exact bodyPost_ret (v := .tuple #[.slice none 0 0, .int .i64 2]) (by simp [results, Tryd.results17, go_sem]) rfl (ApplyP.no KV.out (HBR.out.alloc hsz _))
      · by_cases hp1 : (N : Int) ≤ (L.getD k re0).pos
        · have KV := Lib.hid (appE_bad (l := l) hL1 (by rw [HN.out]; omega))
          clear hL1 hbm
          generalize (L.getD k re0).pos = p at *
          generalize (L.getD k re0).word = x at *
          go_wp2_with (fail)
          exact bodyPost_ret (v := .tuple #[.slice none 0 0, .int .i64 2]) (by simp [results, Tryd.results17, go_sem]) rfl (ApplyP.no KV.out (HBR.out.alloc hsz _))
        · have KV := Lib.hid (hs.out.more ⟨by omega, by omega⟩)
          obtain ⟨p, hp⟩ := Int.eq_ofNat_of_zero_le (show 0 ≤ (L.getD k re0).pos by omega)
          rw [hp] at e1 hp0 hp1 hbm
          rw [Int.toNat_natCast, hX.out] at hbm
          have HBM := Lib.hid hbm
          clear hL1 hbm hp
          generalize (L.getD k re0).word = x at *
          have d1 : decide ((p : Int) < 0) = false := by rw [decide_eq_false_iff_not]; omega
          have hpN : p < N := by omega
          have hB2 := hO.out.below (on_alloc wr (.cells #[.int .i64 (p : Int), .int .u64 (x : Int)] 45)) hBlt
          have hc2 := hB2.cell p (by rw [hXN.out]; exact hpN)
          have hf2 := hB2.frozen p
          have HB2 := Lib.hid hB2
          have hneB : ¬ B = wr.heap.size := by omega
          generalize X.getD p 0 = old at *
          clear hp0 hB2
          go_wp2_with (fail)
          have hwB : w.heap.size ≤ B := by rw [HBE.out]; exact Nat.le_refl _
          have hst := hO.out.set p x
          have hbs := HBR.out.setCell (p := ⟨B, p, none⟩) hwB (.int .u64 (x : Int))
          go_roundw
          case rel => exact ⟨k + 1, _, by go_num, by omega, HBM, Lib.hid (by rw [List.length_set]; exact hXN.out), Lib.hid (hst.below (on_alloc _ _) hst.lt), hbs.alloc hbs.size _, KV⟩
          case measure => simp [intOf]; omega
    · obtain rfl : k = n := by omega
      have e0 : appE l L = 0 := appE_ok (by rw [HN.out, HL.out]; exact hs.out)
      have e2 : appL l L = X := by rw [← hX.out, ← HL.out, List.take_length]
      have KF := Lib.hid (ApplyP.yes (w := w) (w' := wr) (R := some ⟨B, 0, none⟩) (m := N) (cr := N) e0 HN.out (by rw [e2]; exact hO.out.row) hBr)
      clear e0 e2 hX hO
      go_wp2_with (fail)
      go_ret2
      exact KF.out
/-! ### the document's own -/
set_option maxRecDepth 100000 in
set_option maxHeartbeats 1000000 in
theorem rapply_calls (W : Option Addr) (l : List Nat) (d : Nat) (A : Option Addr) (L : List Re) (c : Nat) (w : World) (hr : Row w W l) (hll : l.length ≤ 1048576) (ha : Cel w A (ev L)) (hlen : L.length ≤ 1099511627776) :
    Calls Tryd.prog 18 #[.slice W l.length d, .slice A L.length c] w (ApplyP l L w) := by
  obtain ⟨i0, hi0, hz0, hs0, hb0⟩ := info_parts u64_info
  have HI := Lib.hid hi0
  have HZ := Lib.hid hz0
  have HS := Lib.hid hs0
  have HB := Lib.hid hb0
  obtain ⟨n, hLn⟩ : ∃ n, L.length = n := ⟨_, rfl⟩
  have HL := Lib.hid hLn
  rw [hLn]
  rw [hLn] at hlen
  clear hLn hi0 hz0 hs0 hb0
  obtain ⟨N, hN⟩ : ∃ N, l.length = N := ⟨_, rfl⟩
  have HN := Lib.hid hN
  rw [hN]
  rw [hN] at hll
  clear hN
  go_enter Tryd.func18, Tryd.ntmps18
  go_wp2_with (fail)
  go_loop [6] (fun i => ∃ k : Nat, i = .int .i64 k ∧ k ≤ n ∧ Hid (InTo L N k)) (fun i => n - (intOf i).toNat)
  case atStart => exact ⟨0, rfl, by omega, Lib.hid (fun j hj => absurd hj (by omega))⟩
  case round =>
    obtain ⟨k, rfl, hk, hs⟩ := hrel
    by_cases h1 : k < n
    · obtain ⟨b1, o1, rfl, hlb, hca⟩ := ha.re (by rw [HL.out]; omega)
      obtain ⟨e1, e2⟩ := hca k (by rw [HL.out]; exact h1)
      have hL1 : k < L.length := by rw [HL.out]; exact h1
      clear hca
      by_cases hp0 : (L.getD k re0).pos < 0
      · have KV := Lib.hid (appE_bad (l := l) hL1 (by omega))
        clear hL1
        generalize (L.getD k re0).pos = p at *
        go_wp2_with (fail)
        go_ret2
        exact ApplyP.no KV.out (Below.refl _ _)
      · by_cases hp1 : (N : Int) ≤ (L.getD k re0).pos
        · have KV := Lib.hid (appE_bad (l := l) hL1 (by rw [HN.out]; omega))
          clear hL1
          generalize (L.getD k re0).pos = p at *
          go_wp2_with (fail)
          go_ret2
          exact ApplyP.no KV.out (Below.refl _ _)
        · have KV := Lib.hid (hs.out.more ⟨by omega, by omega⟩)
          clear hL1
          generalize (L.getD k re0).pos = p at *
          go_wp2_with (fail)
          go_round
          case rel => exact ⟨k + 1, by go_num, by omega, KV⟩
          case measure => simp [intOf]; omega
    · obtain rfl : k = n := by omega
      go_wp2_with (at_builtin; refine wpList_cloneC rfl (.const (.slice none 0 0)) (.tmp 31) 25 rfl 26 i0 Tryd.underlying25 HI.out HZ.out HS.out HB.out W l d rfl (by rw [HN.out]; rfl) hr (by rw [HN.out]; omega) ?_; intro A1 c1 w1 hr1 hf1 hb1 hk1 hc1)
      have K1 : Hid (0 < N → ∃ g, A1 = some ⟨g, 0, none⟩ ∧ w.heap.size ≤ g ∧ Blkp 26 w1 g l) := Lib.hid (fun h => hk1 (by rw [HN.out]; exact h))
      have HR1 := Lib.hid hr1
      have HB1 := Lib.hid hb1
      have hs1 := Lib.hid hs.out
      clear hk1 hr1 hf1 hr
      rw [HN.out]
      go_loopw [8] (fun i wr => ∃ (k2 : Nat) (X : List Nat), i = .int .i64 k2 ∧ k2 ≤ k ∧ Hid (appL l (L.take k2) = X) ∧ Hid (X.length = N) ∧ Hid (Row wr A1 X) ∧ Hid (0 < N → ∃ g, A1 = some ⟨g, 0, none⟩ ∧ w.heap.size ≤ g ∧ Blkp 26 wr g X) ∧ Below w.heap.size w wr) (fun i _ => k - (intOf i).toNat)
      case atStart => exact ⟨0, l, rfl, by omega, rfl, HN, HR1, K1, hb1⟩
      case round =>
        obtain ⟨k2, X, rfl, hk2, hX, hXN, hRr, hO, hBr⟩ := hrel
        by_cases h2 : k2 < k
        · have har := ha.below hBr
          obtain ⟨b1, o1, rfl, hlb, hca⟩ := har.re (by rw [HL.out]; omega)
          obtain ⟨e1, e2⟩ := hca k2 (by rw [HL.out]; exact h2)
          have hbm := app_more (l := l) (show k2 < L.length by rw [HL.out]; exact h2)
          obtain ⟨g0, g1⟩ := hs1.out k2 h2
          obtain ⟨g, rfl, hwg, hBk⟩ := hO.out (by omega)
          obtain ⟨p, hp⟩ := Int.eq_ofNat_of_zero_le g0
          rw [hp] at e1 g1 hbm
          rw [Int.toNat_natCast, hX.out] at hbm
          have HBM := Lib.hid hbm
          have HBR := Lib.hid hBr
          have HBK := Lib.hid hBk
          have hpN : p < N := by omega
          have hc2 := hBk.cell p (by rw [hXN.out]; exact hpN)
          have hf2 := hBk.frozen p
          generalize (L.getD k2 re0).word = x at *
          generalize X.getD p 0 = old at *
          clear hca har g0 hp hbm hBr hBk hO hRr
          go_wp2_with (fail)
          go_still_tail 12, (by kernel_rfl)
          change wpList _ _ _ _ _ wr.drew
          go_wp2_with (fail)
          have hst := (HBK.out.set p x).drewN 1
          have hbs := below_drewN (HBR.out.setCell (p := ⟨g, p, none⟩) hwg (.int .u64 (x : Int))) 1
          go_roundw
          case rel => exact ⟨k2 + 1, _, by go_num, by omega, HBM, Lib.hid (by rw [List.length_set]; exact hXN.out), Lib.hid hst.row, Lib.hid (fun _ => ⟨g, rfl, hwg, hst⟩), hbs⟩
          case measure => simp [intOf]; omega
        · obtain rfl : k2 = k := by omega
          have e0 : appE l L = 0 := appE_ok (by rw [HN.out, HL.out]; exact hs1.out)
          have e2 : appL l L = X := by rw [← hX.out, ← HL.out, List.take_length]
          have KF := Lib.hid (ApplyP.yes (w := w) (w' := wr) (R := A1) (m := N) (cr := c1) e0 HN.out (by rw [e2]; exact hRr.out) hBr)
          clear e0 e2 hX hO hRr
          go_wp2_with (fail)
          go_ret2
          exact KF.out
end Go.Proofs.YtlfpjfijlngpcaaDoor
