/- find, Get, Remove. -/
import Derived.Test.YthfafejjjmdpbaaVg
set_option linter.unusedSimpArgs false
set_option linter.unusedVariables false
namespace Go.Proofs.Ythfafejjjmdpbaa
open Go.RowKit Go.Lib
/-- What find leaves. -/
def FindPost (w : World) (L : List Xt) (k : ByteArray) (e : Ending) (w' : World) : Prop :=
  (getN L k = 0 → ∃ A1 A2 A3 v, e = .returned (.tuple #[.slice A1 (loL L k).length (loL L k).length, .slice A2 1 1, .slice A3 (hiL L k).length (hiL L k).length, .int .i64 0]) ∧
      Hid (Cel w' A1 (xv (loL L k)) ∧ Cel w' A2 (xv [⟨v, getV L k⟩]) ∧ Cel w' A3 (xv (hiL L k)))) ∧
    (getN L k ≠ 0 → e = .returned (.tuple #[.slice none 0 0, .slice none 0 0, .slice none 0 0, .int .i64 (getN L k)])) ∧ Below w.heap.size w w'
theorem FindPost.no {w w' : World} {L : List Xt} {k : ByteArray} {n : Int} (h : getN L k = n) (hn : n ≠ 0) (hb : Below w.heap.size w w') : FindPost w L k (.returned (.tuple #[.slice none 0 0, .slice none 0 0, .slice none 0 0, .int .i64 n])) w' := by
  subst h
  exact ⟨fun h => absurd h hn, fun _ => rfl, hb⟩
set_option maxRecDepth 100000 in
set_option maxHeartbeats 2000000 in
theorem find_calls (A : Option Addr) (L : List Xt) (c : Nat) (key : ByteArray) (w : World) (hc : Cel w A (xv L)) (hl : L.length ≤ 1099511627776) (hlc : L.length ≤ c) :
    Calls Try.prog 27 #[.slice A L.length c, .string key] w (FindPost w L key) := by
  have cC := xcheck_calls A L c w hc hl
  obtain ⟨n, hn⟩ : ∃ n, L.length = n := ⟨_, rfl⟩
  have HC := Lib.hid hc
  clear hc
  cases hx : xsB L
  case false =>
    have HV : Hid (getN L key = 622) := Lib.hid (by unfold getN; rw [if_pos hx])
    have e : chN L = 622 := by unfold chN; rw [if_pos hx]
    rw [e] at cC
    rw [hn] at cC ⊢
    have CC := Lib.hid cC
    clear hn cC hx e hl hlc
    go_enter Try.func27, Try.ntmps27
    go_wp2_with (fail)
    refine CC.out.mono ?_
    rintro e w1 ⟨rfl, hb1⟩
    have HB := Lib.hid hb1
    clear hb1
    go_wp2_with (fail)
    exact bodyPost_ret (v := .tuple #[.slice none 0 0, .slice none 0 0, .slice none 0 0, .int .i64 622]) (by simp [results, Try.results27, go_sem]) rfl (.no HV.out (by decide) HB.out)
  case true =>
  have e : chN L = 0 := by unfold chN; rw [if_neg (by rw [hx]; decide)]
  have HV0 : Hid (getN L key = if keyN key ≠ 0 then keyN key else if hasB L key = false then 661 else 0) := Lib.hid (by unfold getN; rw [if_neg (by rw [hx]; decide)])
  rw [e] at cC
  have cK := fun W => key_calls key W
  have cP := fun (W : World) (h : Cel W A (xv L)) => part_calls A L c key W h (xsB_up_iff.1 hx).2.1 hl hlc
  have HSM := Lib.hid (sm_len (k := key) (xsB_up_iff.1 hx).2.1)
  have HO : Hid (hasB L key = true → smL L key = [⟨key, getV L key⟩]) := Lib.hid (one_part (xsB_up_iff.1 hx).2.1)
  have cP' : Hid (∀ (W : World), Cel W A (xv L) → Calls Try.prog 23 #[.slice A n c, .string key] W fun e w' => ∃ A1 A2 A3,
      e = .returned (.tuple #[.slice A1 (loL L key).length (loL L key).length, .slice A2 (smL L key).length (smL L key).length, .slice A3 (hiL L key).length (hiL L key).length]) ∧
        Hid (Cel w' A1 (xv (loL L key)) ∧ Cel w' A2 (xv (smL L key)) ∧ Cel w' A3 (xv (hiL L key))) ∧ Below W.heap.size W w') := Lib.hid (by rw [hn] at cP; exact cP)
  rw [hn] at cC hl hlc ⊢
  have CC := Lib.hid cC
  clear hn cC e cP hx
  by_cases hm : keyN key = 0
  case neg =>
    have HV : Hid (getN L key = keyN key) := Lib.hid (by rw [HV0.out, if_pos hm])
    have hne : (keyN key == 0) = false := by rw [beq_eq_false_iff_ne]; exact hm
    generalize keyN key = m at *
    have CK := Lib.hid cK
    have HM := Lib.hid hm
    clear cK hm
    go_enter Try.func27, Try.ntmps27
    go_wp2_with (fail)
    refine CC.out.mono ?_
    rintro e w1 ⟨rfl, hb1⟩
    have HB := Lib.hid hb1
    clear hb1
    go_wp2_with (fail)
    refine (CK.out _).mono ?_
    rintro e w2 ⟨rfl, rfl⟩
    go_wp2_with (fail)
    exact bodyPost_ret (v := .tuple #[.slice none 0 0, .slice none 0 0, .slice none 0 0, .int .i64 m]) (by simp [results, Try.results27, go_sem]) rfl (.no HV.out HM.out HB.out)
  case pos =>
  have HV : Hid (getN L key = if hasB L key = false then 661 else 0) := Lib.hid (by rw [HV0.out, if_neg (by rw [hm]; decide)])
  rw [hm] at cK
  have CK := Lib.hid cK
  clear cK hm HV0
  cases hb : hasB L key
  case false =>
    have HV2 : Hid (getN L key = 661) := Lib.hid (by rw [HV.out, if_pos hb])
    obtain ⟨X, hX⟩ : ∃ X, loL L key = X := ⟨_, rfl⟩
    obtain ⟨Y, hY⟩ : ∃ Y, smL L key = Y := ⟨_, rfl⟩
    obtain ⟨Z, hZ⟩ : ∃ Z, hiL L key = Z := ⟨_, rfl⟩
    have hy : Y.length = 0 := by rw [← hY, HSM.out, hb]; rfl
    rw [hX, hY, hZ, hy] at cP'
    obtain ⟨x, hx⟩ : ∃ x, X.length = x := ⟨_, rfl⟩
    obtain ⟨z, hz⟩ : ∃ z, Z.length = z := ⟨_, rfl⟩
    rw [hx, hz] at cP'
    clear hX hY hZ hy hx hz hb HV HSM HO
    go_enter Try.func27, Try.ntmps27
    go_wp2_with (fail)
    refine CC.out.mono ?_
    rintro e w1 ⟨rfl, hb1⟩
    have HB := Lib.hid hb1
    clear hb1
    go_wp2_with (fail)
    refine (CK.out _).mono ?_
    rintro e w2 ⟨rfl, rfl⟩
    go_wp2_with (fail)
    refine (cP'.out _ (HC.out.below HB.out)).mono ?_
    rintro e w3 ⟨A1, A2, A3, rfl, hR, hb3⟩
    have HB3 := Lib.hid (HB.out.trans (hb3.mono HB.out.size))
    clear hb3
    go_wp2_with (fail)
    exact bodyPost_ret (v := .tuple #[.slice none 0 0, .slice none 0 0, .slice none 0 0, .int .i64 661]) (by simp [results, Try.results27, go_sem]) rfl (.no HV2.out (by decide) HB3.out)
  case true =>
    have HV2 : Hid (getN L key = 0) := Lib.hid (by rw [HV.out, if_neg (by rw [hb]; decide)])
    have hY := HO.out hb
    rw [hY] at cP'
    obtain ⟨x, hx⟩ : ∃ x, (loL L key).length = x := ⟨_, rfl⟩
    obtain ⟨z, hz⟩ : ∃ z, (hiL L key).length = z := ⟨_, rfl⟩
    have HX := Lib.hid hx
    have HZ := Lib.hid hz
    rw [hx, hz, show ([⟨key, getV L key⟩] : List Xt).length = 1 from rfl] at cP'
    clear hY hx hz hb HV HSM HO
    go_enter Try.func27, Try.ntmps27
    go_wp2_with (fail)
    refine CC.out.mono ?_
    rintro e w1 ⟨rfl, hb1⟩
    have HB := Lib.hid hb1
    clear hb1
    go_wp2_with (fail)
    refine (CK.out _).mono ?_
    rintro e w2 ⟨rfl, rfl⟩
    go_wp2_with (fail)
    refine (cP'.out _ (HC.out.below HB.out)).mono ?_
    rintro e w3 ⟨A1, A2, A3, rfl, hR, hb3⟩
    have HB3 := Lib.hid (HB.out.trans (hb3.mono HB.out.size))
    clear hb3
    go_wp2_with (fail)
    refine bodyPost_ret (v := .tuple #[.slice A1 x x, .slice A2 1 1, .slice A3 z z, .int .i64 0]) (by simp [results, Try.results27, go_sem]) rfl ⟨fun _ => ⟨A1, A2, A3, key, by rw [HX.out, HZ.out], hR⟩, fun h => absurd HV2.out h, HB3.out⟩
/-- What Get leaves. -/
theorem getR_no {L : List Xt} {k : ByteArray} (h : getN L k ≠ 0) : getR L k = ⟨#[]⟩ := by unfold getR; rw [if_neg h]
theorem getR_yes {L : List Xt} {k : ByteArray} (h : getN L k = 0) : getR L k = getV L k := by unfold getR; rw [if_pos h]
theorem remR_no {L : List Xt} {k : ByteArray} (h : getN L k ≠ 0) : remR L k = [] := by unfold remR; rw [if_neg h]
theorem remR_yes {L : List Xt} {k : ByteArray} (h : getN L k = 0) : remR L k = loL L k ++ hiL L k := by unfold remR; rw [if_pos h]; rfl
set_option maxRecDepth 100000 in
set_option maxHeartbeats 2000000 in
theorem get_calls (A : Option Addr) (L : List Xt) (c : Nat) (key : ByteArray) (w : World) (hc : Cel w A (xv L)) (hl : L.length ≤ 1099511627776) (hlc : L.length ≤ c) :
    Calls Try.prog 14 #[.slice A L.length c, .string key] w fun e w' => e = .returned (.tuple #[.string (getR L key), .int .i64 (getN L key)]) ∧ Below w.heap.size w w' := by
  have cF := find_calls A L c key w hc hl hlc
  obtain ⟨n, hn⟩ : ∃ n, L.length = n := ⟨_, rfl⟩
  rw [hn] at cF ⊢
  clear hn hc hl hlc
  have CF := Lib.hid cF
  clear cF
  by_cases h : getN L key = 0
  case pos =>
    have HV := Lib.hid h
    have HR := Lib.hid (getR_yes h)
    clear h
    go_enter Try.func14, Try.ntmps14
    go_wp2_with (fail)
    refine CF.out.mono ?_
    rintro e w1 ⟨h1, _, hb⟩
    obtain ⟨A1, A2, A3, v, rfl, hR⟩ := h1 HV.out
    have HB := Lib.hid hb
    clear h1 hb
    obtain ⟨b, o, rfl, hlt, hcell⟩ := hR.out.2.1.xt (Nat.zero_lt_one)
    obtain ⟨e1, e2⟩ := hcell 0 _ rfl
    simp only [Nat.zero_mul, Nat.add_zero] at e1 e2
    clear hcell hR
    generalize hx : (loL L key).length = x at *
    generalize hz : (hiL L key).length = z at *
    generalize hv : getV L key = gv at *
    have HGV := Lib.hid hv
    clear hx hz hv
    go_wp2_with (fail)
    go_ret2
    exact ⟨by rw [HR.out, HV.out]; rfl, HB.out⟩
  case neg =>
    have HV := Lib.hid h
    have HR := Lib.hid (getR_no h)
    obtain ⟨m, hm⟩ : ∃ m, getN L key = m := ⟨_, rfl⟩
    have HM := Lib.hid hm
    rw [hm] at h
    rw [HR.out, hm]
    have hne : (m == 0) = false := by rw [beq_eq_false_iff_ne]; exact h
    clear h hm
    go_enter Try.func14, Try.ntmps14
    go_wp2_with (fail)
    refine CF.out.mono ?_
    rintro e w1 ⟨_, h2, hb⟩
    obtain rfl := h2 HV.out
    rw [HM.out]
    have HB := Lib.hid hb
    clear h2 hb
    go_wp2_with (fail)
    go_ret2
    exact ⟨rfl, HB.out⟩
set_option maxRecDepth 100000 in
set_option maxHeartbeats 2000000 in
theorem remove_calls (A : Option Addr) (L : List Xt) (c : Nat) (key : ByteArray) (w : World) (hc : Cel w A (xv L)) (hl : L.length ≤ 1099511627776) (hlc : L.length ≤ c) :
    Calls Try.prog 16 #[.slice A L.length c, .string key] w fun e w' => ∃ B d, e = .returned (.tuple #[.slice B (remR L key).length d, .int .i64 (getN L key)]) ∧ MineX w w' B (remR L key).length d (remR L key) ∧ Below w.heap.size w w' := by
  have cF := find_calls A L c key w hc hl hlc
  obtain ⟨n, hn⟩ : ∃ n, L.length = n := ⟨_, rfl⟩
  rw [hn] at cF ⊢
  clear hn hc hl hlc
  have CF := Lib.hid cF
  clear cF
  by_cases h : getN L key = 0
  case pos =>
    have HV := Lib.hid h
    have HR := Lib.hid (remR_yes h)
    have h4 : Hid ((loL L key).length + (hiL L key).length ≤ 4) := Lib.hid (by
      obtain ⟨h1, _, _⟩ := getN_zero.1 h
      obtain ⟨_, h2, h3⟩ := xsB_up_iff.1 h1
      have := congrArg List.length (parts (k := key) h2).1
      simp only [List.length_append] at this
      omega)
    clear h
    rw [HR.out, HV.out]
    obtain ⟨X, hX⟩ : ∃ X, loL L key = X := ⟨_, rfl⟩
    obtain ⟨Z, hZ⟩ : ∃ Z, hiL L key = Z := ⟨_, rfl⟩
    obtain ⟨y, hy⟩ : ∃ y, (X ++ Z).length = y := ⟨_, rfl⟩
    rw [hX, hZ] at h4 ⊢
    rw [hy]
    have HX := Lib.hid hX
    have HZ := Lib.hid hZ
    have HY := Lib.hid hy
    clear hX hZ hy HR
    go_enter Try.func16, Try.ntmps16
    go_wp2_with (fail)
    refine CF.out.mono ?_
    rintro e w1 ⟨h1, _, hb⟩
    obtain ⟨A1, A2, A3, v, rfl, hR⟩ := h1 HV.out
    rw [HX.out, HZ.out] at hR ⊢
    have HB := Lib.hid hb
    obtain ⟨q1, _, q3⟩ := hR.out
    clear h1 hb hR HV CF
    have bA : Below w1.heap.size w1 (w1.alloc (.cells #[.slice A1 X.length X.length, .slice A3 Z.length Z.length] 22)) := (Below.refl _ _).alloc (Nat.le_refl _) _
    have cC := concat_calls w1.heap.size A1 A3 X Z _ (heap_alloc_new w1 (.cells #[.slice A1 X.length X.length, .slice A3 Z.length Z.length] 22)) (q1.below bA) (q3.below bA) (by have := h4.out; omega)
    rw [HY.out] at cC
    have HBA := Lib.hid (HB.out.trans (bA.mono HB.out.size))
    have CC := Lib.hid cC
    obtain ⟨x, hx⟩ : ∃ x, X.length = x := ⟨_, rfl⟩
    obtain ⟨z, hz⟩ : ∃ z, Z.length = z := ⟨_, rfl⟩
    rw [hx, hz] at CC HBA ⊢
    clear cC bA q1 q3 hx hz h4
    go_wp2_with (fail)
    refine CC.out.mono ?_
    rintro e w2 ⟨C, d, rfl, hM, hb2⟩
    have HM : Hid (MineX w w2 C y d (X ++ Z)) := Lib.hid (hM.from HBA.out.size)
    have HB2 := Lib.hid (HBA.out.trans (hb2.mono HBA.out.size))
    clear hM hb2
    go_wp2_with (fail)
    go_ret2
    exact ⟨C, d, rfl, HM.out, HB2.out⟩
  case neg =>
    have HV := Lib.hid h
    have HR := Lib.hid (remR_no h)
    obtain ⟨m, hm⟩ : ∃ m, getN L key = m := ⟨_, rfl⟩
    have HM := Lib.hid hm
    rw [hm] at h
    rw [HR.out, hm]
    have hne : (m == 0) = false := by rw [beq_eq_false_iff_ne]; exact h
    clear h hm
    go_enter Try.func16, Try.ntmps16
    go_wp2_with (fail)
    refine CF.out.mono ?_
    rintro e w1 ⟨_, h2, hb⟩
    obtain rfl := h2 HV.out
    rw [HM.out]
    have HB := Lib.hid hb
    clear h2 hb
    go_wp2_with (fail)
    go_ret2
    exact ⟨none, 0, rfl, mine_nil _ _, HB.out⟩
end Go.Proofs.Ythfafejjjmdpbaa
