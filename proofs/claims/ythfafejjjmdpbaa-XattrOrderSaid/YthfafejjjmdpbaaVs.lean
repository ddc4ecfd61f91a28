/- Set. -/
import Derived.Test.YthfafejjjmdpbaaVb
set_option linter.unusedSimpArgs false
set_option linter.unusedVariables false
namespace Go.Proofs.Ythfafejjjmdpbaa
open Go.RowKit Go.Lib
theorem mine_nil (w w' : World) : MineX w w' none 0 0 [] := ⟨OwnR.nil _ _ _, fun ad h => by cases h⟩
theorem setR_no {L : List Xt} {k v : ByteArray} {how : Int} (h : setN L k v how ≠ 0) : setR L k v how = [] := by unfold setR; rw [if_neg h]
theorem setL_eq (L : List Xt) (k v : ByteArray) : setL L k v = (loL L k ++ [⟨k, v⟩]) ++ hiL L k := by unfold setL; simp
theorem sm_len {L : List Xt} {k : ByteArray} (h : Up L) : (smL L k).length = if hasB L k then 1 else 0 := by
  cases hb : hasB L k
  · rw [hasB_no.1 hb]; rfl
  · rw [one_part h hb]; rfl
/-- What Set leaves. -/
def SetPost (w : World) (L : List Xt) (k v : ByteArray) (how : Int) (e : Ending) (w' : World) : Prop :=
  ∃ B d, e = .returned (.tuple #[.slice B (setR L k v how).length d, .int .i64 (setN L k v how)]) ∧ MineX w w' B (setR L k v how).length d (setR L k v how) ∧ Below w.heap.size w w'
theorem SetPost.no {w w' : World} {L : List Xt} {k v : ByteArray} {how n : Int} (h : setN L k v how = n) (hn : n ≠ 0) (hb : Below w.heap.size w w') : SetPost w L k v how (.returned (.tuple #[.slice none 0 0, .int .i64 n])) w' := by
  subst h
  unfold SetPost
  rw [setR_no hn]
  exact ⟨none, 0, rfl, mine_nil _ _, hb⟩
theorem SetPost.yes {w w' : World} {L : List Xt} {k v : ByteArray} {how : Int} {B : Option Addr} {c m : Nat} (h : setN L k v how = 0) (hm : m = (setL L k v).length) (hM : MineX w w' B (setL L k v).length c (setL L k v)) (hb : Below w.heap.size w w') : SetPost w L k v how (.returned (.tuple #[.slice B m c, .int .i64 0])) w' := by
  have e : setR L k v how = setL L k v := by unfold setR; rw [if_pos h]
  subst hm
  unfold SetPost
  rw [e, h]
  exact ⟨B, c, rfl, hM, hb⟩
set_option maxRecDepth 100000 in
set_option maxHeartbeats 2000000 in
theorem set_calls (A : Option Addr) (L : List Xt) (c : Nat) (key val : ByteArray) (how : Int) (w : World) (hc : Cel w A (xv L)) (hl : L.length ≤ 1099511627776) (hlc : L.length ≤ c) (h0 : 0 ≤ how) (h1 : how < 256) :
    Calls Try.prog 9 #[.slice A L.length c, .string key, .string val, .int .u8 how] w (SetPost w L key val how) := by
  have cC := xcheck_calls A L c w hc hl
  obtain ⟨n, hn⟩ : ∃ n, L.length = n := ⟨_, rfl⟩
  have HN := Lib.hid hn
  have HC := Lib.hid hc
  clear hc
  cases hx : xsB L
  case false =>
    have HV : Hid (setN L key val how = 622) := Lib.hid (by unfold setN; rw [if_pos hx])
    have e : chN L = 622 := by unfold chN; rw [if_pos hx]
    rw [e] at cC
    rw [hn] at cC ⊢
    have CC := Lib.hid cC
    clear hn cC hx e hl hlc
    go_enter Try.func9, Try.ntmps9
    go_wp2_with (fail)
    refine CC.out.mono ?_
    rintro e w1 ⟨rfl, hb1⟩
    have HB := Lib.hid hb1
    clear hb1
    go_wp2_with (fail)
    go_ret2
    exact .no HV.out (by decide) HB.out
  case true =>
  have e : chN L = 0 := by unfold chN; rw [if_neg (by rw [hx]; decide)]
  have HV0 : Hid (setN L key val how = if misN key val how ≠ 0 then misN key val how else barN how (hasB L key) n) := Lib.hid (by unfold setN; rw [if_neg (by rw [hx]; decide), hn])
  rw [e] at cC
  have cM := fun W => misfit_calls key val how W h0 h1
  have cP := fun (W : World) (h : Cel W A (xv L)) => part_calls A L c key W h (xsB_up_iff.1 hx).2.1 hl hlc
  have h4 : L.length ≤ 4 := (xsB_up_iff.1 hx).2.2
  have HSM := Lib.hid (sm_len (k := key) (xsB_up_iff.1 hx).2.1)
  have HT := Lib.hid (parts (k := key) (xsB_up_iff.1 hx).2.1).1
  rw [hn] at cC hl hlc h4 ⊢
  have cP' : Hid (∀ (W : World), Cel W A (xv L) → Calls Try.prog 23 #[.slice A n c, .string key] W fun e w' => ∃ A1 A2 A3,
      e = .returned (.tuple #[.slice A1 (loL L key).length (loL L key).length, .slice A2 (smL L key).length (smL L key).length, .slice A3 (hiL L key).length (hiL L key).length]) ∧
        Hid (Cel w' A1 (xv (loL L key)) ∧ Cel w' A2 (xv (smL L key)) ∧ Cel w' A3 (xv (hiL L key))) ∧ Below W.heap.size W w') := Lib.hid (by rw [hn] at cP; exact cP)
  have CC := Lib.hid cC
  clear hn cC e cP hx
  by_cases hm : misN key val how = 0
  case neg =>
    have HV : Hid (setN L key val how = misN key val how) := Lib.hid (by rw [HV0.out, if_pos hm])
    have hne : (misN key val how == 0) = false := by rw [beq_eq_false_iff_ne]; exact hm
    generalize misN key val how = m at *
    have CM := Lib.hid cM
    have HM := Lib.hid hm
    clear cM hm
    go_enter Try.func9, Try.ntmps9
    go_wp2_with (fail)
    refine CC.out.mono ?_
    rintro e w1 ⟨rfl, hb1⟩
    have HB := Lib.hid hb1
    clear hb1
    go_wp2_with (fail)
    refine (CM.out _).mono ?_
    rintro e w2 ⟨rfl, rfl⟩
    go_wp2_with (fail)
    go_ret2
    exact .no HV.out HM.out HB.out
  case pos =>
  have HV : Hid (setN L key val how = barN how (hasB L key) n) := Lib.hid (by rw [HV0.out, if_neg (by rw [hm]; decide)])
  have hle : how ≤ 2 := by
    rcases Int.lt_or_le 2 how with h | h
    · unfold misN at hm; rw [if_pos h] at hm; cases hm
    · exact h
  rw [hm] at cM
  have CM := Lib.hid cM
  clear cM hm HV0
  have cB := fun W => barred_calls how (hasB L key) n W h0 hle hl
  obtain ⟨X, hX⟩ : ∃ X, loL L key = X := ⟨_, rfl⟩
  obtain ⟨Y, hY⟩ : ∃ Y, smL L key = Y := ⟨_, rfl⟩
  obtain ⟨Z, hZ⟩ : ∃ Z, hiL L key = Z := ⟨_, rfl⟩
  have HS : Hid (setL L key val = (X ++ [⟨key, val⟩]) ++ Z) := Lib.hid (by rw [setL_eq, hX, hZ])
  have HLEN : Hid (X.length + (Y.length + Z.length) = n) := Lib.hid (by rw [← HN.out]; conv => rhs; rw [HT.out]
                                                                        rw [hX, hY, hZ, List.length_append, List.length_append])
  rw [hX, hY, hZ] at cP'
  rw [hY] at HSM
  clear HT hX hY hZ
  obtain ⟨x, hx⟩ : ∃ x, X.length = x := ⟨_, rfl⟩
  obtain ⟨y, hy⟩ : ∃ y, Y.length = y := ⟨_, rfl⟩
  obtain ⟨z, hz⟩ : ∃ z, Z.length = z := ⟨_, rfl⟩
  rw [hx, hy, hz] at cP' HLEN
  rw [hy] at HSM
  have HX := Lib.hid hx
  have HZ := Lib.hid hz
  have hlx : x ≤ n := by have := HLEN.out; omega
  have hlz : x + 1 + z ≤ 5 := by have := HLEN.out; omega
  have hb : decide ((0 : Int) < (y : Int)) = hasB L key := by
    rw [HSM.out]
    cases hasB L key <;> rfl
  have hb' : decide (0 < y) = hasB L key := by
    rw [HSM.out]
    cases hasB L key <;> rfl
  clear hx hy hz HSM
  generalize hasB L key = b at *
  obtain ⟨m, hm⟩ : ∃ m, barN how b n = m := ⟨_, rfl⟩
  simp only [hm] at cB
  rw [hm] at HV
  have CB := Lib.hid cB
  have CP := cP'
  clear cB hm cP'
  by_cases hm0 : m = 0
  case neg =>
    have hne : (m == 0) = false := by rw [beq_eq_false_iff_ne]; exact hm0
    have HM := Lib.hid hm0
    clear hm0
    go_enter Try.func9, Try.ntmps9
    go_wp2_with (fail)
    refine CC.out.mono ?_
    rintro e w1 ⟨rfl, hb1⟩
    have HB := Lib.hid hb1
    clear hb1
    go_wp2_with (fail)
    refine (CM.out _).mono ?_
    rintro e w2 ⟨rfl, rfl⟩
    go_wp2_with (fail)
    refine (CP.out _ (HC.out.below HB.out)).mono ?_
    rintro e w3 ⟨A1, A2, A3, rfl, hR, hb3⟩
    have HB3 := Lib.hid (HB.out.trans (hb3.mono HB.out.size))
    clear hb3
    go_wp2_with (fail)
    refine (CB.out _).mono ?_
    rintro e w4 ⟨rfl, rfl⟩
    go_wp2_with (fail)
    go_ret2
    exact .no HV.out HM.out HB3.out
  case pos =>
    subst hm0
    go_enter Try.func9, Try.ntmps9
    go_wp2_with (fail)
    refine CC.out.mono ?_
    rintro e w1 ⟨rfl, hb1⟩
    have HB := Lib.hid hb1
    clear hb1
    go_wp2_with (fail)
    refine (CM.out _).mono ?_
    rintro e w2 ⟨rfl, rfl⟩
    go_wp2_with (fail)
    refine (CP.out _ (HC.out.below HB.out)).mono ?_
    rintro e w3 ⟨A1, A2, A3, rfl, hR, hb3⟩
    have HB3 := Lib.hid (HB.out.trans (hb3.mono HB.out.size))
    clear hb3
    go_wp2_with (fail)
    refine (CB.out _).mono ?_
    rintro e w4 ⟨rfl, rfl⟩
    have bA : Below w3.heap.size w3 (w3.alloc (.cells #[.string key, .string val] 42)) := (Below.refl _ _).alloc (Nat.le_refl _) _
    have HBA := Lib.hid (HB3.out.trans (bA.mono HB3.out.size))
    have hsz : w.heap.size ≤ (w3.alloc (.cells #[.string key, .string val] 42)).heap.size := HBA.out.size
    obtain ⟨q1, _, q3⟩ := hR.out
    have Q1 := Lib.hid (q1.below bA)
    have Q3 := Lib.hid (q3.below bA)
    have N1 := Lib.hid (one_xt (heap_alloc_new w3 (.cells #[.string key, .string val] 42)))
    have HSZ := Lib.hid hsz
    clear q1 q3 bA hR hsz
    go_wp2_with (first
      | (at_builtin; refine wpList_xfull rfl (.tmp 45) (.tmp 49) rfl A1 X x HX.out.symm rfl Q1.out ⟨w3.heap.size, 0, none⟩ [⟨key, val⟩] 1 1 rfl rfl N1.out (by decide) (by omega) ?_; intro B1 c1 w5 hM1 hb5)
      | (at_builtin; refine wpList_xmore rfl (.tmp 50) (.tmp 51) rfl (w3.alloc (.cells #[.string key, .string val] 42)) B1 (X ++ [⟨key, val⟩]) _ c1 (by simp) rfl hM1 hb5.size A3 Z z z HZ.out.symm rfl (Q3.out.below hb5) (by have := HX.out; omega) ?_; intro B2 c2 w6 hM2 hb6))
    go_ret2
    refine .yes HV.out (by rw [HS.out]; simp) (by rw [HS.out]; exact hM2.from HSZ.out) (HBA.out.trans ((hb5.trans hb6).mono HSZ.out))
end Go.Proofs.Ythfafejjjmdpbaa
