/- WordTakes: for every row and bound the law's call hands back true; nothing that was there has turned. -/
import Derived.Test.YtllamgefoibcoaaDoorAlive
import Derived.Test.YtllamgefoibcoaaDoorTakesMath
namespace Go.Proofs.YtllamgefoibcoaaDoor
open Go.RowKit WordMath
theorem wpList_clone' {P : Program} {w : World} {ops : Array Oper} {rest : List Oper} {o : Oper} {a : Act} {Q : Exit → Act → World → Prop} (hgd : o.guard = none) (s x : Operand) (t : TypeId)
    (ho : o.op = .call { callee := .builtin .append, args := #[s, x], argTypes := #[t, t] })
    (e : TypeId) (i : TypeInfo) (ht : P.underlying t = some (.slice e)) (hi : P.info? e = some i) (hz : i.zero = some (.int .u64 0)) (hsize : i.size = 1) (hby : i.bytes = 8)
    (A : Option Addr) (l : List Nat) (n c : Nat) (hn : l.length = n) (hs : a.eval s = .slice none 0 0) (hx : a.eval x = .slice A n c) (hr : Row w A l) (hlen : l.length ≤ 17592186044416)
    (h : ∀ A' c' w', Row w' A' l → Fresh w.heap.size A' → Below w.heap.size w w' → wpList P ops Q rest (a.put o.dst (.slice A' n c')) w') : wpList P ops Q (o :: rest) a w := by
  subst hn
  exact wpList_clone hgd s x t ho e i ht hi hz hsize hby A l c hs hx hr hlen fun A' c' w' h1 h2 h3 _ => h A' c' w' h1 h2 h3
/-- What the loop holds behind k rounds: the row, the bit that was taken last. -/
structure Took (l : List Nat) (M k : Nat) (rk : List Nat) (b : Int) : Prop where
  len : rk.length = l.length
  wd : Wd rk
  ones : cnt rk M = cnt l M + k
  full : Full rk (b + 1).toNat
  low : -1 ≤ b
theorem withL_on {l : List Nat} {r : Nat} (h : isBit l r) : withL l r true = onL l r := by
  rw [withL_yes h]
  unfold onL one
  rw [show ((r : Int) / 64).toNat = r / 64 by omega, show ((r : Int) % 64).toNat = r % 64 by omega]
  rfl
theorem Took.start {l : List Nat} {M : Nat} (hl : Wd l) : Took l M 0 l (-1) := ⟨rfl, hl, rfl, ⟨fun i hi => absurd hi (by simp)⟩, by omega⟩
theorem onL_wd {l : List Nat} (h : Wd l) (r : Nat) : Wd (onL l r) :=
  h.set _ _ (put_lt _ _ _ _ (by decide) (by simpa using h (r / 64)) (by omega))
theorem Took.step {l : List Nat} {M k : Nat} {rk : List Nat} {b : Int} (h : Took l M k rk b) (hM : M ≤ 64 * l.length) (hk : cnt l M + k < M) :
    ∃ r : Nat, r < M ∧ bitL rk r = 0 ∧ Full rk r ∧ b < r ∧ Took l M (k + 1) (onL rk r) r := by
  obtain ⟨r, h1, h2, h3⟩ := least_zero rk M (by rw [h.ones]; exact hk)
  have hr : r / 64 < rk.length := by rw [h.len]; omega
  have hle := full_le rk _ r h.full h2
  have := h.low
  refine ⟨r, h1, h2, h3, by omega, ⟨by rw [onL_len, h.len], onL_wd h.wd r, by rw [cnt_on _ _ _ hr h1 h2, h.ones]; omega, ?_, by omega⟩⟩
  rw [show ((r : Int) + 1).toNat = r + 1 by omega]
  exact full_on rk r hr h3
theorem Took.done {l : List Nat} {M k : Nat} {rk : List Nat} {b : Int} (h : Took l M k rk b) (hk : cnt l M + k = M) : Full rk M ∧ cnt rk M = M := by
  have : cnt rk M = M := by rw [h.ones]; exact hk
  exact ⟨full_of_cnt _ _ this, this⟩
theorem lim_len {l r : List Nat} (h : r.length = l.length) (n : Int) : lim r n = lim l n := by unfold lim; rw [h]
theorem takes_calls (A : Option Addr) (l : List Nat) (c : Nat) (n : Int) (w : World) (n0 : 0 ≤ n) (n1 : n ≤ 255) (hr : Row w A l) (hl : Wd l) (hlen : l.length ≤ 9223372036854775807) (hT : TabAt w) :
    Calls Tryd.prog 7 #[.slice A l.length c, .int .u8 n] w fun e w' => e = .returned (.bool true) ∧ Below w.heap.size w w' := by
  have HT := Lib.hid hT
  clear hT
  by_cases hbig : 5 < l.length
  · go_enter Tryd.func7, Tryd.ntmps7
    go_wp2_with (go_at_call 12; refine (alive_calls _ HT.out).mono ?_; rintro e w' ⟨rfl, hb⟩)
    go_ret
    exact ⟨rfl, hb⟩
  obtain ⟨i0', hi0, hz0, hs0, hb0⟩ := info_parts u64_info
  have HZ := Lib.hid hz0
  have HS := Lib.hid hs0
  have HB := Lib.hid hb0
  have HI := Lib.hid hi0
  clear hz0 hs0 hb0 hi0
  have HC : Hid (cntV l n = (cnt l (lim l n) : Nat)) := rfl
  have hcl := cnt_le l (lim l n)
  have hM : lim l n ≤ 64 * l.length := by unfold lim; omega
  by_cases hm : n ≤ 64 * l.length
  · have hM1 : (lim l n : Int) ≤ n := by unfold lim; omega
    have hM2 : n ≤ (lim l n : Int) := by unfold lim; omega
    generalize hg : lim l n = M at *
    have HM := Lib.hid hg
    clear hg
    go_enter Tryd.func7, Tryd.ntmps7
    go_wp2_with (first
      | (at_builtin; refine wpList_clone rfl (.const (.slice none 0 0)) (.tmp 25) 29 rfl 22 i0' Tryd.underlying29 HI.out HZ.out HS.out HB.out A l c rfl rfl hr (by omega) ?_; intro A1 c1 w1 hr1 hf1 hb1 _)
      | (go_at_call 20; refine (count_calls A1 l c1 n w1 (by omega) (by omega) hr1 hl (by omega)).mono ?_; rintro e w' ⟨rfl, rfl⟩; rw [HC.out])
      | (at_builtin; refine wpList_clone rfl (.const (.slice none 0 0)) (.tmp 31) 29 rfl 22 i0' Tryd.underlying29 HI.out HZ.out HS.out HB.out A l c rfl rfl (hr.below hb1) (by omega) ?_; intro A2 c2 w2 hr2 hf2 hb2 _))
    have HB2 := hb1.trans (hb2.mono hb1.size)
    clear hr1 hf1 hb1 hf2 hb2
    go_loopw [7, 8, 9] (fun row before k wr => ∃ (j : Nat) (R : Option Addr) (cr : Nat) (rk : List Nat) (b : Int), k = .int .i64 j ∧ row = .slice R l.length cr ∧ before = .int .i64 b ∧ (cnt l M : Int) + j ≤ M ∧ Took l M j rk b ∧ Row wr R rk ∧ Below w.heap.size w wr) (fun _ _ k _ => M + 1 - (intOf k).toNat)
    case atStart => exact ⟨0, A2, c2, l, -1, rfl, rfl, rfl, by omega, Took.start hl, hr2, HB2⟩
    case round =>
      obtain ⟨k, R, cr, rk, b, rfl, rfl, rfl, hk, htk, hrk, HBr⟩ := hrel
      have hTr := Lib.hid (HT.out.below HBr)
      have hll := htk.low
      by_cases hleft : (cnt l M : Int) + k < M
      · obtain ⟨r, h1, h2, h3, h4, h5⟩ := htk.step hM (by omega)
        have hlow := low_some (l := rk) (n := n) h3 h2 (by rw [lim_len htk.len, HM.out]; exact h1)
        have hib : isBit rk r := ⟨by omega, by rw [htk.len]; omega⟩
        have HL := Lib.hid hlow
        have HE := Lib.hid (hasE_yes hib)
        have HW := Lib.hid (withL_on hib)
        have c17 := lowest_calls R rk cr n wr (by omega) hrk htk.wd (by rw [htk.len]; omega) hTr.out
        have c15 := with_calls R rk cr r true wr (by omega) hrk htk.wd (by rw [htk.len]; omega)
        rw [HL.out.1, HL.out.2] at c17
        rw [HE.out, HW.out] at c15
        rw [htk.len] at c17 c15
        have C17 := Lib.hid c17
        have C15 := Lib.hid c15
        have HLEN := Lib.hid h5.len
        have hdec : decide ((k : Int) < n - (cnt l M : Nat)) = true := by simp; omega
        have hlt : (onL rk r).length ≤ 5 := by rw [h5.len]; omega
        clear c17 c15 hlow h2 h3 hib hrk htk hr2
        go_wp2_with (first
          | (go_at_call 17; refine (show Calls Tryd.prog 17 _ _ _ from C17.out).mono ?_; rintro e w' ⟨rfl, rfl⟩)
          | (go_at_call 15; refine (show Calls Tryd.prog 15 _ _ _ from C15.out).mono ?_; rintro e w3 ⟨X, cx, rfl, hx, fx, hb3⟩; rw [HLEN.out])
          | (at_builtin; refine wpList_clone' rfl (.const (.slice none 0 0)) (.tmp 89) 29 rfl 22 i0' Tryd.underlying29 HI.out HZ.out HS.out HB.out X (onL rk r) l.length cx HLEN.out rfl rfl hx (by omega) ?_; intro A4 c4 w4 hr4 hf4 hb4))
        go_roundw
        case rel => exact ⟨k + 1, A4, c4, onL rk r, r, by go_num, rfl, rfl, by omega, h5, hr4, (HBr.trans (hb3.mono HBr.size)).trans (hb4.mono (HBr.trans (hb3.mono HBr.size)).size)⟩
        case measure => simp [intOf]; omega
      · obtain ⟨h1, h2⟩ := htk.done (by omega)
        have hlow := low_none (l := rk) (n := n) (by rw [lim_len htk.len, HM.out]; exact h1)
        have c17 := lowest_calls R rk cr n wr (by omega) hrk htk.wd (by rw [htk.len]; omega) hTr.out
        have c20 := count_calls R rk cr n wr (by omega) (by omega) hrk htk.wd (by rw [htk.len]; omega)
        have hdec : decide ((k : Int) < n - (cnt l M : Nat)) = false := by simp; omega
        have hcv : cntV rk n = n := by unfold cntV; rw [lim_len htk.len, HM.out]; show (cnt rk M : Int) = _; rw [h2]; omega
        rw [hlow.1, hlow.2] at c17
        rw [hcv] at c20
        rw [htk.len] at c17 c20
        have C17 := Lib.hid c17
        have C20 := Lib.hid c20
        clear c17 c20 hlow h1 h2 hcv hrk htk hr2
        go_wp2_with (first
          | (go_at_call 17; refine (show Calls Tryd.prog 17 _ _ _ from C17.out).mono ?_; rintro e w' ⟨rfl, rfl⟩)
          | (go_at_call 20; refine (show Calls Tryd.prog 20 _ _ _ from C20.out).mono ?_; rintro e w' ⟨rfl, rfl⟩)
          | (go_at_call 12; refine (alive_calls _ hTr.out).mono ?_; rintro e w' ⟨rfl, hb⟩))
        go_ret
        exact ⟨rfl, HBr.trans (hb.mono HBr.size)⟩
  · have hM1 : (lim l n : Int) ≤ 64 * l.length := by unfold lim; omega
    have hM2 : 64 * l.length ≤ (lim l n : Int) := by unfold lim; omega
    generalize hg : lim l n = M at *
    have HM := Lib.hid hg
    clear hg
    go_enter Tryd.func7, Tryd.ntmps7
    go_wp2_with (first
      | (at_builtin; refine wpList_clone rfl (.const (.slice none 0 0)) (.tmp 25) 29 rfl 22 i0' Tryd.underlying29 HI.out HZ.out HS.out HB.out A l c rfl rfl hr (by omega) ?_; intro A1 c1 w1 hr1 hf1 hb1 _)
      | (go_at_call 20; refine (count_calls A1 l c1 n w1 (by omega) (by omega) hr1 hl (by omega)).mono ?_; rintro e w' ⟨rfl, rfl⟩; rw [HC.out])
      | (at_builtin; refine wpList_clone rfl (.const (.slice none 0 0)) (.tmp 31) 29 rfl 22 i0' Tryd.underlying29 HI.out HZ.out HS.out HB.out A l c rfl rfl (hr.below hb1) (by omega) ?_; intro A2 c2 w2 hr2 hf2 hb2 _))
    have HB2 := hb1.trans (hb2.mono hb1.size)
    clear hr1 hf1 hb1 hf2 hb2
    go_loopw [7, 8, 9] (fun row before k wr => ∃ (j : Nat) (R : Option Addr) (cr : Nat) (rk : List Nat) (b : Int), k = .int .i64 j ∧ row = .slice R l.length cr ∧ before = .int .i64 b ∧ (cnt l M : Int) + j ≤ M ∧ Took l M j rk b ∧ Row wr R rk ∧ Below w.heap.size w wr) (fun _ _ k _ => M + 1 - (intOf k).toNat)
    case atStart => exact ⟨0, A2, c2, l, -1, rfl, rfl, rfl, by omega, Took.start hl, hr2, HB2⟩
    case round =>
      obtain ⟨k, R, cr, rk, b, rfl, rfl, rfl, hk, htk, hrk, HBr⟩ := hrel
      have hTr := Lib.hid (HT.out.below HBr)
      have hll := htk.low
      by_cases hleft : (cnt l M : Int) + k < M
      · obtain ⟨r, h1, h2, h3, h4, h5⟩ := htk.step hM (by omega)
        have hlow := low_some (l := rk) (n := n) h3 h2 (by rw [lim_len htk.len, HM.out]; exact h1)
        have hib : isBit rk r := ⟨by omega, by rw [htk.len]; omega⟩
        have HL := Lib.hid hlow
        have HE := Lib.hid (hasE_yes hib)
        have HW := Lib.hid (withL_on hib)
        have c17 := lowest_calls R rk cr n wr (by omega) hrk htk.wd (by rw [htk.len]; omega) hTr.out
        have c15 := with_calls R rk cr r true wr (by omega) hrk htk.wd (by rw [htk.len]; omega)
        rw [HL.out.1, HL.out.2] at c17
        rw [HE.out, HW.out] at c15
        rw [htk.len] at c17 c15
        have C17 := Lib.hid c17
        have C15 := Lib.hid c15
        have HLEN := Lib.hid h5.len
        have hdec : decide ((k : Int) < 64 * l.length - (cnt l M : Nat)) = true := by simp; omega
        have hlt : (onL rk r).length ≤ 5 := by rw [h5.len]; omega
        clear c17 c15 hlow h2 h3 hib hrk htk hr2
        go_wp2_with (first
          | (go_at_call 17; refine (show Calls Tryd.prog 17 _ _ _ from C17.out).mono ?_; rintro e w' ⟨rfl, rfl⟩)
          | (go_at_call 15; refine (show Calls Tryd.prog 15 _ _ _ from C15.out).mono ?_; rintro e w3 ⟨X, cx, rfl, hx, fx, hb3⟩; rw [HLEN.out])
          | (at_builtin; refine wpList_clone' rfl (.const (.slice none 0 0)) (.tmp 89) 29 rfl 22 i0' Tryd.underlying29 HI.out HZ.out HS.out HB.out X (onL rk r) l.length cx HLEN.out rfl rfl hx (by omega) ?_; intro A4 c4 w4 hr4 hf4 hb4))
        go_roundw
        case rel => exact ⟨k + 1, A4, c4, onL rk r, r, by go_num, rfl, rfl, by omega, h5, hr4, (HBr.trans (hb3.mono HBr.size)).trans (hb4.mono (HBr.trans (hb3.mono HBr.size)).size)⟩
        case measure => simp [intOf]; omega
      · obtain ⟨h1, h2⟩ := htk.done (by omega)
        have hlow := low_none (l := rk) (n := n) (by rw [lim_len htk.len, HM.out]; exact h1)
        have c17 := lowest_calls R rk cr n wr (by omega) hrk htk.wd (by rw [htk.len]; omega) hTr.out
        have c20 := count_calls R rk cr n wr (by omega) (by omega) hrk htk.wd (by rw [htk.len]; omega)
        have hdec : decide ((k : Int) < 64 * l.length - (cnt l M : Nat)) = false := by simp; omega
        have hcv : cntV rk n = 64 * l.length := by unfold cntV; rw [lim_len htk.len, HM.out]; show (cnt rk M : Int) = _; rw [h2]; omega
        rw [hlow.1, hlow.2] at c17
        rw [hcv] at c20
        rw [htk.len] at c17 c20
        have C17 := Lib.hid c17
        have C20 := Lib.hid c20
        clear c17 c20 hlow h1 h2 hcv hrk htk hr2
        go_wp2_with (first
          | (go_at_call 17; refine (show Calls Tryd.prog 17 _ _ _ from C17.out).mono ?_; rintro e w' ⟨rfl, rfl⟩)
          | (go_at_call 20; refine (show Calls Tryd.prog 20 _ _ _ from C20.out).mono ?_; rintro e w' ⟨rfl, rfl⟩)
          | (go_at_call 12; refine (alive_calls _ hTr.out).mono ?_; rintro e w' ⟨rfl, hb⟩))
        go_ret
        exact ⟨rfl, HBr.trans (hb.mono HBr.size)⟩
end Go.Proofs.YtllamgefoibcoaaDoor
