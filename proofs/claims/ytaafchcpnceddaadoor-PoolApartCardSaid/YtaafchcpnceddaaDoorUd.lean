/- Drop, the program's and the document's own. -/
import Derived.Test.YtaafchcpnceddaaDoorUc
set_option linter.unusedSimpArgs false
set_option linter.unusedVariables false
namespace Go.Proofs.YtaafchcpnceddaaDoor
open Go.RowKit WordMath
/-- Each is one of the n numbers. -/
def okB (n : Int) (is : List Int) : Bool := is.all fun i => decide (1 ≤ i ∧ i ≤ n)
def dropE (l : List Nat) (n : Int) (is : List Int) : Int := if validB l n then (if okB n is then (if dropB l (dn is) then 0 else 6) else 3) else 2
def dropR (l : List Nat) (n : Int) (is : List Int) : List Nat := if dropE l n is = 0 then clrsL l (dn is) else []
theorem dropR_yes {l : List Nat} {n : Int} {is : List Int} (h : dropE l n is = 0) : dropR l n is = clrsL l (dn is) := if_pos h
theorem dropR_no {l : List Nat} {n : Int} {is : List Int} (h : dropE l n is ≠ 0) : dropR l n is = [] := if_neg h
def DropsP (l : List Nat) (n : Int) (is : List Int) (w : World) (e : Ending) (w' : World) : Prop :=
  ∃ R cr, e = .returned (.tuple #[.slice R (dropR l n is).length cr, .int .i64 (dropE l n is)]) ∧ Row w' R (dropR l n is) ∧ (∀ ad, R = some ad → w.heap.size ≤ ad.block) ∧ Below w.heap.size w w'
theorem DropsP.no {l : List Nat} {n : Int} {is : List Int} {w w' : World} {E : Int} (h : dropE l n is = E) (h0 : E ≠ 0) (hb : Below w.heap.size w w') : DropsP l n is w (.returned (.tuple #[.slice none 0 0, .int .i64 E])) w' := by
  have h1 : dropE l n is ≠ 0 := by rw [h]; exact h0
  refine ⟨none, 0, ?_, ?_, (fun ad h => by cases h), hb⟩
  · rw [dropR_no h1, h]; rfl
  · rw [dropR_no h1]; exact Row.nil _ _
theorem DropsP.yes {l : List Nat} {n : Int} {is : List Int} {w w' : World} {rk : List Nat} {N cr : Nat} {R : Option Addr} (h : dropE l n is = 0) (hk : clrsL l (dn is) = rk) (hN : l.length = N) (hr : Row w' R rk) (hf : ∀ ad, R = some ad → w.heap.size ≤ ad.block) (hb : Below w.heap.size w w') :
    DropsP l n is w (.returned (.tuple #[.slice R N cr, .int .i64 0])) w' := by
  refine ⟨R, cr, ?_, ?_, hf, hb⟩
  · rw [dropR_yes h, clrsL_len, h, hN]
  · rw [dropR_yes h, hk]; exact hr
theorem dropE_0 {l : List Nat} {n : Int} {is : List Int} (h : dropE l n is = 0) : validB l n = true ∧ okB n is = true ∧ dropB l (dn is) = true := by
  unfold dropE at h
  split at h
  · rename_i h1
    split at h
    · rename_i h2
      split at h
      · rename_i h3
        exact ⟨h1, h2, h3⟩
      · cases h
    · cases h
  · cases h
theorem drop_at (is : List Int) (j : Nat) (hj : j < is.length) : is.drop j = is.getD j 0 :: is.drop (j + 1) := by
  rw [List.drop_eq_getElem_cons hj]
  congr 1
  rw [List.getD_eq_getElem?_getD, List.getElem?_eq_getElem hj]; rfl
theorem okB_at (n : Int) (is : List Int) (j : Nat) (hj : j < is.length) : okB n (is.drop j) = (decide (1 ≤ is.getD j 0 ∧ is.getD j 0 ≤ n) && okB n (is.drop (j + 1))) := by
  rw [drop_at is j hj]
  rfl
/-- The state of the second loop: what is left to drop from the row as it is. -/
structure Dk (l : List Nat) (is : List Int) (j : Nat) (rk : List Nat) : Prop where
  b : dropB rk (dn (is.drop j)) = dropB l (dn is)
  r : clrsL rk (dn (is.drop j)) = clrsL l (dn is)
  len : rk.length = l.length
  wd : Wd rk
theorem Dk.start {l : List Nat} {is : List Int} (hl : Wd l) : Dk l is 0 l := ⟨rfl, rfl, rfl, hl⟩
theorem clr_wd {l : List Nat} (h : Wd l) (i : Nat) : Wd (clrL l i) := wd_clr (l := l) h i
theorem Dk.step {l : List Nat} {is : List Int} {j : Nat} {rk : List Nat} (h : Dk l is j rk) (hj : j < is.length) (hb : bitL rk (is.getD j 0 - 1).toNat = 1) : Dk l is (j + 1) (clrL rk (is.getD j 0 - 1).toNat) := by
  have hd : dn (is.drop j) = (is.getD j 0 - 1).toNat :: dn (is.drop (j + 1)) := by rw [drop_at is j hj]; rfl
  have h1 := h.b
  have h2 := h.r
  rw [hd] at h1 h2
  refine ⟨?_, h2, by rw [clrL_len, h.len], clr_wd h.wd _⟩
  rw [← h1]
  show _ = (decide (bitL rk (is.getD j 0 - 1).toNat = 1) && dropB (clrL rk (is.getD j 0 - 1).toNat) (dn (is.drop (j + 1))))
  rw [decide_eq_true hb, Bool.true_and]
theorem Dk.bad {l : List Nat} {is : List Int} {j : Nat} {rk : List Nat} (h : Dk l is j rk) (hj : j < is.length) (hb : bitL rk (is.getD j 0 - 1).toNat ≠ 1) : dropB l (dn is) = false := by
  have hd : dn (is.drop j) = (is.getD j 0 - 1).toNat :: dn (is.drop (j + 1)) := by rw [drop_at is j hj]; rfl
  have h1 := h.b
  rw [hd] at h1
  rw [← h1]
  show (decide (bitL rk (is.getD j 0 - 1).toNat = 1) && dropB (clrL rk (is.getD j 0 - 1).toNat) (dn (is.drop (j + 1)))) = false
  rw [decide_eq_false hb, Bool.false_and]
theorem Dk.done {l : List Nat} {is : List Int} {rk : List Nat} (h : Dk l is is.length rk) : dropB l (dn is) = true ∧ clrsL l (dn is) = rk := by
  have h1 := h.b
  have h2 := h.r
  rw [List.drop_length] at h1 h2
  exact ⟨h1.symm, h2.symm⟩
theorem okB_all {n : Int} {is : List Int} (h : okB n is = true) {j : Nat} (hj : j < is.length) : 1 ≤ is.getD j 0 ∧ is.getD j 0 ≤ n := by
  unfold okB at h
  rw [List.all_eq_true] at h
  have := h (is.getD j 0) (by rw [List.getD_eq_getElem?_getD, List.getElem?_eq_getElem hj]; exact List.getElem_mem hj)
  exact of_decide_eq_true this
set_option maxRecDepth 100000 in
theorem drop_calls (A : Option Addr) (l : List Nat) (c : Nat) (n : Int) (B : Option Addr) (is : List Int) (d : Nat) (w : World) (hn : -9223372036854775808 ≤ n) (hn2 : n ≤ 9223372036854775807) (hr : Row w A l) (hl : Wd l) (hlen : l.length ≤ 65536) (hi : Cel w B (iv is)) (hin : is.length ≤ 1048576) (hib : ∀ ad, B = some ad → 0 < is.length → ad.block < w.heap.size) :
    Calls Tryd.prog 18 #[.slice A l.length c, .int .i64 n, .slice B is.length d] w (DropsP l n is w) := by
  have cv := valid_calls A l c n w hn2 (by omega)
  cases hv : validB l n
  · rw [hv] at cv
    have KE := Lib.hid (show dropE l n is = 2 by unfold dropE; rw [hv]; rfl)
    have CV := Lib.hid cv
    clear cv hv
    go_enter Tryd.func18, Tryd.ntmps18
    go_wp2_with (go_at_call 25; refine (show Calls Tryd.prog 25 _ _ _ from CV.out).mono ?_; rintro e w' ⟨rfl, rfl⟩)
    go_ret2
    exact DropsP.no KE.out (by decide) (Below.refl _ _)
  · rw [hv] at cv
    obtain ⟨h0, h1⟩ := validB_iff.1 hv
    have CV := Lib.hid cv
    have HV := Lib.hid hv
    clear cv hv
    go_enter Tryd.func18, Tryd.ntmps18
    go_wp2_with (go_at_call 25; refine (show Calls Tryd.prog 25 _ _ _ from CV.out).mono ?_; rintro e w' ⟨rfl, rfl⟩)
    go_loop [20] (fun i => ∃ j : Nat, i = .int .i64 j ∧ j ≤ is.length ∧ Hid (okB n (is.drop j) = okB n is)) (fun i => is.length - (intOf i).toNat)
    case atStart => exact ⟨0, rfl, by omega, rfl⟩
    case round =>
      obtain ⟨j, rfl, hj, hok⟩ := hrel
      by_cases hjl : j < is.length
      · obtain ⟨ad, rfl, hcj⟩ := hi.int hjl
        have hstep := okB_at n is j hjl
        rw [hok.out] at hstep
        generalize hx : is.getD j 0 = x at *
        clear hx
        by_cases hx1 : x < 1
        · have KE : Hid (dropE l n is = 3) := by
            show dropE l n is = 3
            unfold dropE
            rw [HV.out, if_pos rfl, hstep, decide_eq_false (by omega)]
            rfl
          clear hstep hi
          go_wp2_with (fail)
          go_ret2
          exact DropsP.no KE.out (by decide) (Below.refl _ _)
        · by_cases hx2 : x > n
          · have KE : Hid (dropE l n is = 3) := by
              show dropE l n is = 3
              unfold dropE
              rw [HV.out, if_pos rfl, hstep, decide_eq_false (by omega)]
              rfl
            clear hstep hi
            go_wp2_with (fail)
            go_ret2
            exact DropsP.no KE.out (by decide) (Below.refl _ _)
          · rw [decide_eq_true (show 1 ≤ x ∧ x ≤ n by omega), Bool.true_and] at hstep
            have HS := Lib.hid hstep.symm
            clear hstep hi
            go_wp2_with (fail)
            go_round
            case rel => exact ⟨j + 1, by go_num, by omega, HS⟩
            case measure => simp [intOf]; omega
      · obtain rfl : j = is.length := by omega
        have HO : Hid (okB n is = true) := by
          show okB n is = true
          rw [← hok.out, List.drop_length]
          rfl
        clear hok
        go_wp2_with (go_at_call 20; refine (twin_calls A l c w hr (by omega)).mono ?_; rintro e w1 ⟨rfl, hB1, hb1⟩)
        go_loopw [6, 36] (fun row i wr => ∃ (j : Nat) (rk : List Nat), i = .int .i64 j ∧ j ≤ is.length ∧ row = .slice (some ⟨w.heap.size, 0, none⟩) l.length l.length ∧ Hid (Dk l is j rk) ∧ Hid (Blk 38 wr w.heap.size rk) ∧ Below w.heap.size w wr) (fun _ i _ => is.length - (intOf i).toNat)
        case atStart => exact ⟨0, l, rfl, by omega, rfl, Dk.start hl, hB1, hb1⟩
        case round =>
          clear hB1 hb1
          obtain ⟨j, rk, rfl, hj, rfl, hk, hB, HBr⟩ := hrel
          by_cases hjl : j < is.length
          · obtain ⟨ad, rfl, hcj0⟩ := hi.int hjl
            have hcj : wr.cell? (ad.add j) = some (.int .i64 (is.getD j 0)) := (HBr.cell (p := ad.add j) (by rw [add_block]; exact hib ad rfl (by omega))).trans hcj0
            obtain ⟨hx1, hx2⟩ := okB_all HO.out hjl
            have hstep := fun h => hk.out.step hjl h
            have hbad := fun h => hk.out.bad hjl h
            have hlen2 := hk.out.len
            generalize hx : is.getD j 0 = x at *
            clear hx hcj0 hi
            obtain ⟨y, rfl⟩ : ∃ y : Nat, x = (y : Int) + 1 := ⟨(x - 1).toNat, by omega⟩
            have ey : ((y : Int) + 1 - 1) = (y : Int) := by omega
            have ey2 : ((y : Int) + 1 - 1).toNat = y := by omega
            rw [ey2] at hstep hbad
            have ch := has_calls (some ⟨w.heap.size, 0, none⟩) rk l.length (y : Int) wr (by omega) hB.out.row hk.out.wd
            have hibt : isBit rk (y : Int) := ⟨by omega, by omega⟩
            rw [hasV_yes hibt, hasE_yes hibt, hlen2, Int.toNat_natCast] at ch
            cases hbt : (bitL rk y == 1)
            · rw [hbt] at ch
              have KE : Hid (dropE l n is = 6) := by
                show dropE l n is = 6
                unfold dropE
                rw [HV.out, if_pos rfl, HO.out, if_pos rfl, hbad (by simpa using hbt)]
                rfl
              have CH := Lib.hid ch
              clear ch hstep hbad hbt hibt hlen2
              go_wp2_with (go_at_call 28; refine (show Calls Tryd.prog 28 _ _ _ from CH.out).mono ?_; rintro e w' ⟨rfl, rfl⟩)
              go_ret2
              exact DropsP.no KE.out (by decide) HBr
            · rw [hbt] at ch
              have hk2 := hstep (by simpa using hbt)
              have cm := mark_calls w.heap.size rk l.length y 0 wr hB.out hk.out.wd (by omega) (by decide) (by omega)
              rw [hlen2] at cm
              have CH := Lib.hid ch
              have CM := Lib.hid cm
              have HK := Lib.hid hk2
              clear ch cm hstep hbad hbt hibt hlen2 hk2
              go_wp2_with (first
                | (go_at_call 28; refine (show Calls Tryd.prog 28 _ _ _ from CH.out).mono ?_; rintro e w' ⟨rfl, rfl⟩)
                | (go_at_call 22; refine (show Calls Tryd.prog 22 _ _ _ from CM.out).mono ?_; rintro e w' ⟨⟨v, rfl⟩, q, u, rfl, hB2⟩))
              rw [bitTo_off] at hB2
              go_roundw
              case rel => exact ⟨j + 1, _, by go_num, by omega, rfl, HK, hB2, (below_drewN HBr q).setCell (p := ⟨w.heap.size, y / 64, none⟩) (Nat.le_refl _) u⟩
              case measure => simp [intOf]; omega
          · obtain rfl : j = is.length := by omega
            obtain ⟨hd1, hd2⟩ := hk.out.done
            have KE : Hid (dropE l n is = 0) := by
              show dropE l n is = 0
              unfold dropE
              rw [HV.out, if_pos rfl, HO.out, if_pos rfl, hd1]
              rfl
            have KF := Lib.hid (DropsP.yes KE.out hd2 rfl hB.out.row (fun ad e => by injection e with e; subst e; exact Nat.le_refl _) HBr (cr := l.length))
            clear hd1 hd2 hi
            go_wp2_with (fail)
            go_ret2
            exact KF.out
set_option maxRecDepth 100000 in
theorem rdrop_calls (A : Option Addr) (l : List Nat) (c : Nat) (n : Int) (B : Option Addr) (is : List Int) (d : Nat) (w : World) (hn : -9223372036854775808 ≤ n) (hn2 : n ≤ 9223372036854775807) (hr : Row w A l) (hl : Wd l) (hlen : l.length ≤ 65536) (hi : Cel w B (iv is)) (hin : is.length ≤ 1048576) (hib : ∀ ad, B = some ad → 0 < is.length → ad.block < w.heap.size) :
    Calls Tryd.prog 19 #[.slice A l.length c, .int .i64 n, .slice B is.length d] w (DropsP l n is w) := by
  have cv := may_calls A l c n w hn2 (by omega)
  cases hv : validB l n
  · rw [hv] at cv
    have KE := Lib.hid (show dropE l n is = 2 by unfold dropE; rw [hv]; rfl)
    have CV := Lib.hid cv
    clear cv hv
    go_enter Tryd.func19, Tryd.ntmps19
    go_wp2_with (go_at_call 27; refine (show Calls Tryd.prog 27 _ _ _ from CV.out).mono ?_; rintro e w' ⟨rfl, rfl⟩)
    go_ret2
    exact DropsP.no KE.out (by decide) (Below.refl _ _)
  · rw [hv] at cv
    obtain ⟨h0, h1⟩ := validB_iff.1 hv
    obtain ⟨j0, hj0, hy0, ht0, hu0⟩ := info_parts u64_info
    have HJ := Lib.hid hj0
    have HY := Lib.hid hy0
    have HT := Lib.hid ht0
    have HU := Lib.hid hu0
    clear hj0 hy0 ht0 hu0
    have CV := Lib.hid cv
    have HV := Lib.hid hv
    clear cv hv
    go_enter Tryd.func19, Tryd.ntmps19
    go_wp2_with (go_at_call 27; refine (show Calls Tryd.prog 27 _ _ _ from CV.out).mono ?_; rintro e w' ⟨rfl, rfl⟩)
    go_loop [8] (fun i => ∃ j : Nat, i = .int .i64 j ∧ j ≤ is.length ∧ Hid (okB n (is.drop j) = okB n is)) (fun i => is.length - (intOf i).toNat)
    case atStart => exact ⟨0, rfl, by omega, rfl⟩
    case round =>
      obtain ⟨j, rfl, hj, hok⟩ := hrel
      by_cases hjl : j < is.length
      · obtain ⟨ad, rfl, hcj⟩ := hi.int hjl
        have hstep := okB_at n is j hjl
        rw [hok.out] at hstep
        generalize hx : is.getD j 0 = x at *
        clear hx
        by_cases hx1 : x < 1
        · have KE : Hid (dropE l n is = 3) := by
            show dropE l n is = 3
            unfold dropE
            rw [HV.out, if_pos rfl, hstep, decide_eq_false (by omega)]
            rfl
          clear hstep hi
          go_wp2_with (fail)
          go_ret2
          exact DropsP.no KE.out (by decide) (Below.refl _ _)
        · by_cases hx2 : x > n
          · have KE : Hid (dropE l n is = 3) := by
              show dropE l n is = 3
              unfold dropE
              rw [HV.out, if_pos rfl, hstep, decide_eq_false (by omega)]
              rfl
            clear hstep hi
            go_wp2_with (fail)
            go_ret2
            exact DropsP.no KE.out (by decide) (Below.refl _ _)
          · rw [decide_eq_true (show 1 ≤ x ∧ x ≤ n by omega), Bool.true_and] at hstep
            have HS := Lib.hid hstep.symm
            clear hstep hi
            go_wp2_with (fail)
            go_round
            case rel => exact ⟨j + 1, by go_num, by omega, HS⟩
            case measure => simp [intOf]; omega
      · obtain rfl : j = is.length := by omega
        have HO : Hid (okB n is = true) := by
          show okB n is = true
          rw [← hok.out, List.drop_length]
          rfl
        clear hok
        go_wp2_with (at_builtin; refine wpList_clone rfl (.const (.slice none 0 0)) (.tmp 36) 22 rfl 38 j0 Tryd.underlying22 HJ.out HY.out HT.out HU.out A l c rfl rfl hr (by omega) ?_; intro A1 c1 w1 hr1 hf1 hb1 _)
        go_loopw [9, 10] (fun row i wr => ∃ (j : Nat) (rk : List Nat) (R : Option Addr) (cr : Nat), i = .int .i64 j ∧ j ≤ is.length ∧ row = .slice R l.length cr ∧ Hid (Dk l is j rk) ∧ Row wr R rk ∧ Hid (Fresh w.heap.size R) ∧ Below w.heap.size w wr) (fun _ i _ => is.length - (intOf i).toNat)
        case atStart => exact ⟨0, l, A1, c1, rfl, by omega, rfl, Dk.start hl, hr1, hf1, hb1⟩
        case round =>
          clear hr1 hf1 hb1
          obtain ⟨j, rk, R, cr, rfl, hj, rfl, hk, hrk, hfr, HBr⟩ := hrel
          by_cases hjl : j < is.length
          · obtain ⟨ad, rfl, hcj0⟩ := hi.int hjl
            have hcj : wr.cell? (ad.add j) = some (.int .i64 (is.getD j 0)) := (HBr.cell (p := ad.add j) (by rw [add_block]; exact hib ad rfl (by omega))).trans hcj0
            obtain ⟨hx1, hx2⟩ := okB_all HO.out hjl
            have hstep := fun h => hk.out.step hjl h
            have hbad := fun h => hk.out.bad hjl h
            have hlen2 := hk.out.len
            generalize hx : is.getD j 0 = x at *
            clear hx hcj0 hi
            obtain ⟨y, rfl⟩ : ∃ y : Nat, x = (y : Int) + 1 := ⟨(x - 1).toNat, by omega⟩
            have ey : ((y : Int) + 1 - 1) = (y : Int) := by omega
            have ey2 : ((y : Int) + 1 - 1).toNat = y := by omega
            rw [ey2] at hstep hbad
            have ch := taken_calls R rk cr ((y : Int) + 1) wr (by omega) (by omega) hrk hk.out.wd (by omega)
            rw [ey2, hlen2] at ch
            cases hbt : (bitL rk y == 1)
            · rw [hbt] at ch
              have KE : Hid (dropE l n is = 6) := by
                show dropE l n is = 6
                unfold dropE
                rw [HV.out, if_pos rfl, HO.out, if_pos rfl, hbad (by simpa using hbt)]
                rfl
              have CH := Lib.hid ch
              clear ch hstep hbad hbt hlen2 hrk
              go_wp2_with (go_at_call 23; refine (show Calls Tryd.prog 23 _ _ _ from CH.out).mono ?_; rintro e w' ⟨rfl, rfl⟩)
              go_ret2
              exact DropsP.no KE.out (by decide) HBr
            · rw [hbt] at ch
              have hk2 := hstep (by simpa using hbt)
              have hibt : isBit rk (y : Int) := ⟨by omega, by omega⟩
              have cm := rwith_calls R rk cr (y : Int) false wr (by omega) hrk hk.out.wd (by omega)
              rw [withL_off' hibt, hasE_yes hibt] at cm
              rw [hlen2] at cm
              have CH := Lib.hid ch
              have CM := Lib.hid cm
              have HK := Lib.hid hk2
              have HN : Hid ((clrL rk y).length = l.length) := by
                show _ = _
                rw [clrL_len, hlen2]
              clear ch cm hstep hbad hbt hibt hlen2 hk2 hrk
              go_wp2_with (first
                | (go_at_call 23; refine (show Calls Tryd.prog 23 _ _ _ from CH.out).mono ?_; rintro e w' ⟨rfl, rfl⟩)
                | (go_at_call 24; refine (show Calls Tryd.prog 24 _ _ _ from CM.out).mono ?_; rintro e w3 ⟨A3, c3, rfl, hr3, hf3, hb3⟩; rw [HN.out]))
              go_roundw
              case rel => exact ⟨j + 1, _, A3, c3, by go_num, by omega, rfl, HK, hr3, hf3.mono HBr.size, HBr.trans (hb3.mono HBr.size)⟩
              case measure => simp [intOf]; omega
          · obtain rfl : j = is.length := by omega
            obtain ⟨hd1, hd2⟩ := hk.out.done
            have KE : Hid (dropE l n is = 0) := by
              show dropE l n is = 0
              unfold dropE
              rw [HV.out, if_pos rfl, HO.out, if_pos rfl, hd1]
              rfl
            have KF := Lib.hid (DropsP.yes KE.out hd2 rfl hrk (fun ad e => by obtain ⟨g, e2, hg⟩ := hfr.out ad e; rw [e2]; exact hg) HBr (cr := cr))
            clear hd1 hd2 hi hrk
            go_wp2_with (fail)
            go_ret2
            exact KF.out
end Go.Proofs.YtaafchcpnceddaaDoor
