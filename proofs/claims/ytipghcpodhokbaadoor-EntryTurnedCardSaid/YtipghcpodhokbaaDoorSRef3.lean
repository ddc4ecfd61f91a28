/- The document's own reading of a slot. -/
import Derived.Test.YtipghcpodhokbaaDoorSRef2
import Derived.Test.YtipghcpodhokbaaDoorSame
import Derived.Deep.RegionHeld3
set_option linter.unusedSimpArgs false
set_option linter.unusedVariables false
namespace Go.Proofs.YtipghcpodhokbaaDoor
open Go.RowKit WordMath SumMath
set_option maxRecDepth 100000 in
set_option maxHeartbeats 1000000 in
theorem rdec_len (A : Option Addr) (n c : Nat) (P I B : Int) (w : World) (hn : n ≠ 3) :
    Calls Tryd.prog 23 #[.slice A n c, gv P I B] w fun e w' => e = .returned (.tuple #[zS.v, .bool false]) ∧ On w w' := by
  have D0 := Lib.hid (De.new w P I B)
  have hne : ((n : Int) == 3) = false := by rw [beq_eq_false_iff_ne]; omega
  have hne2 : ((n : Int) != 3) = true := by unfold bne; rw [hne]; rfl
  clear hn
  go_enter Tryd.func23, Tryd.ntmps23
  go_upto_region 1 with (fail)
  generalize (w.alloc (.cells #[.int .i64 P, .int .i64 I, .int .i64 B] 28)).alloc (.cells #[.int .i64 0, .int .u8 0, .string ⟨#[]⟩] 23) = W at *
  have d1 := D0.out
  obtain ⟨z0, z1, z2⟩ := Sb.cells d1.res
  have s0 := Sb.same d1.res 0 (.int .i64 0) rfl
  have s1 := Sb.same d1.res 1 (.int .u8 0) rfl
  have s2 := Sb.same d1.res 2 (.string ⟨#[]⟩) rfl
  have fz : ∀ k, W.frozen? ⟨w.heap.size + 1, k, none⟩ = false := fun k => by have h := d1.res; unfold Sb Ob at h; simp [World.frozen?, h]
  have hl := Ob.lt d1.res
  have hon := d1.on
  clear D0 d1
  go_wp2_with (fail)
  exact bodyPost_ret (v := .tuple #[zS.v, .bool false]) (by simp [results, Tryd.results23, go_sem, z0, z1, z2, zS]) rfl ⟨rfl, hon⟩
/-- Texts longer than the two words: no slot. -/
theorem dec_long {l0 l1 l2 : Nat} {I : Int} (h : ¬ isTxt [l0, l1] (fld l2 16 8 : Nat)) : decOk [l0, l1, l2] I = false := by
  rw [Bool.eq_false_iff]
  intro hd
  obtain ⟨_, ho, hs⟩ := decOk_of hd
  have hS : (rdS [l0, l1, l2]).S = ⟨#[]⟩ := txtV_no h
  have h0 : (rdS [l0, l1, l2]).S.size = 0 := by rw [hS]; rfl
  have hz : isZ (rdS [l0, l1, l2]) = true := by
    unfold okS at ho
    rw [Bool.or_eq_true] at ho
    rcases ho with ho | ho
    · exact ho
    · unfold fullB at ho
      simp only [Bool.and_eq_true, decide_eq_true_eq] at ho
      omega
  unfold slW at hs
  rw [if_pos hz] at hs
  injection hs with _ hs
  injection hs with _ hs
  injection hs with hs _
  subst hs
  apply h
  have : fld 0 16 8 = 0 := rfl
  rw [this]
  exact ⟨by omega, by simp⟩
set_option maxRecDepth 100000 in
set_option maxHeartbeats 4000000 in
theorem rdec_rest (A : Option Addr) (l0 l1 l2 : Nat) (c : Nat) (P I B : Int) (w : World) (i k n : Nat) (tx : ByteArray) (er : Int) (x : Slt) (hx : x = ⟨i, k, tx⟩) (hi : fld l2 0 8 = i) (hk : fld l2 8 8 = k) (hn : fld l2 16 8 = n) (r : Bool) (hg : GOK P I B) (hts : tx.size ≤ 9223372036854775807) (hw : (er ≠ 0 ∧ r = false) ∨ (er = 0 ∧ okS x I = false ∧ r = false) ∨ (er = 0 ∧ okS x I = true ∧ r = sameV (slW x) [l0, l1, l2])) (hr : Row w A [l0, l1, l2]) (hl : Wd [l0, l1, l2]) (hcap : 3 ≤ c)
    (hX : ∀ W, On w W → Calls Tryd.prog 34 #[.slice A 2 c, .int .i64 (n : Nat)] W (GivesText tx er W)) :
    Calls Tryd.prog 23 #[.slice A 3 c, gv P I B] w fun e w' => e = .returned (.tuple #[(if r = true then x else zS).v, .bool r]) ∧ On w w' := by
  have i1 : i < 256 := by rw [← hi]; exact fld_lt _ _ _
  have k1 : k < 256 := by rw [← hk]; exact fld_lt _ _ _
  have n1 : n < 256 := by rw [← hn]; exact fld_lt _ _ _
  have hr0 := hr
  obtain ⟨⟨b, off, sp⟩, rfl, hbl, hcs⟩ := hr (by simp)
  have c0 := hcs 0 (by simp)
  obtain rfl : sp = none := spot_none (w := w) (b := b) (off := off) c0
  have hc2 : ∀ W, On w W → W.cell? ⟨b, off + 2, none⟩ = some (.int .u64 (l2 : Nat)) := fun W hW => by
    have h := hcs 2 (by simp)
    rw [Addr.add_mid] at h
    exact (Below.cell hW (p := ⟨b, off + 2, none⟩) hbl).trans h
  have HC2 := Lib.hid hc2
  have HX := Lib.hid hX
  have HHX := Lib.hid hx
  have HI := Lib.hid hi
  have HK := Lib.hid hk
  have HN := Lib.hid hn
  have D0 := Lib.hid (De.new w P I B)
  have HR := Lib.hid hr0
  have h2 : l2 < 18446744073709551616 := hl 2
  have HL := Lib.hid hl
  have HG := Lib.hid hg
  have HWW := Lib.hid hw
  have HTS := Lib.hid hts
  clear hg hw hts hr hr0 c0 hcs hX hx hi hk hn hl hc2
  go_enter Tryd.func23, Tryd.ntmps23
  go_upto_region 1 with (fail)
  generalize (w.alloc (.cells #[.int .i64 P, .int .i64 I, .int .i64 B] 28)).alloc (.cells #[.int .i64 0, .int .u8 0, .string ⟨#[]⟩] 23) = W at *
  have e2 := HC2.out W D0.out.on
  go_upto_region 4 with (fail)
  have en : (l2 : Int) / 65536 % 256 = (n : Int) := by have h := HN.out; unfold fld at h; simp at h; omega
  rw [en]
  clear e2 en
  go_wp2_with (fail)
  refine (HX.out _ D0.out.on).mono ?_
  rintro e w2 ⟨rfl, hb⟩
  have D2 := Lib.hid (D0.out.on' hb)
  clear D0 hb
  go_upto_region 5 with (fail)
  have e2 := HC2.out w2 D2.out.on
  have hb2 : b < w2.heap.size := Nat.lt_of_lt_of_le hbl (Below.size D2.out.on)
  have t1 : (l2 : Int).tmod 256 = (i : Int) := by
    have h := HI.out
    unfold fld at h
    simp at h
    rw [Int.tmod_eq_emod_of_nonneg (by omega)]
    omega
  have t2 : ((l2 : Int) / 256).tmod 256 = (k : Int) := by
    have h := HK.out
    unfold fld at h
    simp at h
    rw [Int.tmod_eq_emod_of_nonneg (by omega)]
    omega
  have u1 : (l2 : Int) % 256 = (i : Int) := by
    rw [← t1, Int.tmod_eq_emod_of_nonneg (by omega)]
  have u2 : (l2 : Int) / 256 % 256 = (k : Int) := by
    rw [← t2, Int.tmod_eq_emod_of_nonneg (by omega)]
  have wi : IntKind.i64.wrap (i : Int) = (i : Int) := by rw [IntKind.wrap_i64] <;> omega
  have wk : IntKind.u8.wrap (k : Int) = (k : Int) := by simp [IntKind.wrap, IntKind.bits, IntKind.signed]; omega
  go_cut [9] (fun pp wx => pp = .pointer (some ⟨w2.heap.size, 0, none⟩) ∧ wx = (w2.alloc (.cells #[.int .i64 (i : Nat), .int .u8 (k : Nat), .string tx] 23)).drew)
  case first =>
    go_region_held3 (fun u => u.cell? ⟨b, off + 2, none⟩ = some (.int .u64 (l2 : Nat))) (first | exact e2 | exact (World.cell?_alloc_lt _ _ _ hb2).trans e2) (fail)
    all_goals
      go_wp2_with (fail)
      go_meet
      exact ⟨rfl, rfl⟩
  case rest =>
    obtain ⟨rfl, hwc⟩ := hcut
    have hsb : Sb wc w2.heap.size x := by
      rw [hwc, HHX.out]
      exact Ob.new w2 _
    have hon : On w2 wc := by rw [hwc]; exact below_drewN (on_alloc w2 _) 1
    have D3 := Lib.hid (D2.out.on' hon)
    have HS := Lib.hid hsb
    clear e2 hb2 t1 t2 u1 u2 wi wk hwc hsb hon D2
    rcases HWW.out with ⟨her, hrf⟩ | ⟨her, ho, hrf⟩ | ⟨her, ho, hrf⟩
    · have hne : (er == 0) = false := by rw [beq_eq_false_iff_ne]; exact her
      have hne2 : (er != 0) = true := by unfold bne; rw [hne]; rfl
      subst hrf
      have d3 := D3.out
      clear her HWW HX HR HL HI HK HN HC2 HS D3
      obtain ⟨z0, z1, z2⟩ := Sb.cells d3.res
      have s0 := Sb.same d3.res 0 (.int .i64 0) rfl
      have s1 := Sb.same d3.res 1 (.int .u8 0) rfl
      have s2 := Sb.same d3.res 2 (.string ⟨#[]⟩) rfl
      have fz : ∀ k, wc.frozen? ⟨w.heap.size + 1, k, none⟩ = false := fun k => by have h := d3.res; unfold Sb Ob at h; simp [World.frozen?, h]
      have hl := Ob.lt d3.res
      have hon := d3.on
      clear d3
      go_wp2_with (fail)
      exact bodyPost_ret (v := .tuple #[zS.v, .bool false]) (by simp [results, Tryd.results23, go_sem, z0, z1, z2, zS]) rfl ⟨rfl, hon⟩
    · subst her hrf
      have HO := Lib.hid ho
      clear ho HWW HX HR HL HI HK HN HC2
      obtain ⟨x0, x1, x2⟩ := Sb.cells HS.out
      obtain ⟨g0, g1, g2⟩ := Gb.cells D3.out.geo
      have l1' := Ob.lt HS.out
      have l2' := Ob.lt D3.out.geo
      go_wp2_with (fail)
      refine (rmay_good x P I B _ (by rw [HHX.out]; exact HTS.out) HG.out).mono ?_
      rintro e w4 ⟨rfl, hb⟩
      rw [HO.out]
      have d4 := D3.out.on' hb
      clear D3 HS x0 x1 x2 g0 g1 g2 l1' l2' hb HO
      obtain ⟨z0, z1, z2⟩ := Sb.cells d4.res
      have s0 := Sb.same d4.res 0 (.int .i64 0) rfl
      have s1 := Sb.same d4.res 1 (.int .u8 0) rfl
      have s2 := Sb.same d4.res 2 (.string ⟨#[]⟩) rfl
      have fz : ∀ k, w4.frozen? ⟨w.heap.size + 1, k, none⟩ = false := fun k => by have h := d4.res; unfold Sb Ob at h; simp [World.frozen?, h]
      have hl := Ob.lt d4.res
      have hon := d4.on
      clear d4
      go_wp2_with (fail)
      exact bodyPost_ret (v := .tuple #[zS.v, .bool false]) (by simp [results, Tryd.results23, go_sem, z0, z1, z2, zS]) rfl ⟨rfl, hon⟩
    · subst her
      have HO := Lib.hid ho
      have HRF := Lib.hid hrf
      clear ho hrf HWW HX HI HK HN HC2
      obtain ⟨x0, x1, x2⟩ := Sb.cells HS.out
      obtain ⟨g0, g1, g2⟩ := Gb.cells D3.out.geo
      have l1' := Ob.lt HS.out
      have l2' := Ob.lt D3.out.geo
      go_wp2_with (fail)
      refine (rmay_good x P I B _ (by rw [HHX.out]; exact HTS.out) HG.out).mono ?_
      rintro e w4 ⟨rfl, hb⟩
      rw [HO.out]
      have d4 := D3.out.on' hb
      have s4 := Ob.on HS.out hb
      have D4 := Lib.hid d4
      have HS4 := Lib.hid s4
      clear D3 HS x0 x1 x2 g0 g1 g2 l1' l2' hb d4 s4
      obtain ⟨x0, x1, x2⟩ := Sb.cells HS4.out
      have l1' := Ob.lt HS4.out
      go_wp2_with (fail)
      refine (rencode_calls x _ I (by have h := HG.out; unfold GOK at h; omega) HO.out).mono ?_
      rintro e w5 ⟨g, rfl, hbk, hge, hb⟩
      have D5 := Lib.hid (D4.out.on' hb)
      have HS5 := Lib.hid (Ob.on HS4.out hb)
      have hsame := same_calls (some ⟨g, 0, none⟩) (some ⟨b, off, none⟩) (slW x) [l0, l1, l2] 3 c w5 (Blk.row hbk) (HR.out.below D5.out.on) (by rw [slW_length]; decide) (by simp)
      rw [slW_length] at hsame
      rw [← HRF.out] at hsame
      have HSM := Lib.hid hsame
      clear D4 HS4 x0 x1 x2 l1' hbk hge hb hsame
      go_wp2_with (fail)
      refine HSM.out.mono ?_
      rintro e w6 ⟨rfl, m, rfl⟩
      have D6 := D5.out.on' (on_drewN w5 m)
      have HS6 := Ob.on HS5.out (on_drewN w5 m)
      clear D5 HS5 HSM HO HRF HR HL HG
      generalize w5.drewN m = w6 at *
      cases r with
      | false =>
        clear HS6
        obtain ⟨z0, z1, z2⟩ := Sb.cells D6.res
        have s0 := Sb.same D6.res 0 (.int .i64 0) rfl
        have s1 := Sb.same D6.res 1 (.int .u8 0) rfl
        have s2 := Sb.same D6.res 2 (.string ⟨#[]⟩) rfl
        have fz : ∀ k, w6.frozen? ⟨w.heap.size + 1, k, none⟩ = false := fun k => by have h := D6.res; unfold Sb Ob at h; simp [World.frozen?, h]
        have hl := Ob.lt D6.res
        have hon := D6.on
        clear D6
        go_wp2_with (fail)
        exact bodyPost_ret (v := .tuple #[zS.v, .bool false]) (by simp [results, Tryd.results23, go_sem, z0, z1, z2, zS]) rfl ⟨rfl, hon⟩
      | true =>
        obtain ⟨z0, z1, z2⟩ := Sb.cells D6.res
        have fz : ∀ k, w6.frozen? ⟨w.heap.size + 1, k, none⟩ = false := fun k => by have h := D6.res; unfold Sb Ob at h; simp [World.frozen?, h]
        have hl := Ob.lt D6.res
        have hon := D6.on
        obtain ⟨x0, x1, x2⟩ := Sb.cells HS6
        have hl2 := Ob.lt HS6
        clear D6 HS6
        go_wp2_with (fail)
        exact bodyPost_ret (v := .tuple #[x.v, .bool true]) (by simp [results, Tryd.results23, go_sem, z0, z1, z2]) rfl ⟨rfl, ((Below.setCell hon (Nat.le_succ _) _).setCell (Nat.le_succ _) _).setCell (Nat.le_succ _) _⟩
/-- What the document's Decode hands back, of a geometry that may be. -/
theorem rdec_calls (A : Option Addr) (l : List Nat) (c : Nat) (P I B : Int) (w : World) (hg : GOK P I B) (hr : Row w A l) (hl : Wd l) (hcap : l.length ≤ c) :
    Calls Tryd.prog 23 #[.slice A l.length c, gv P I B] w fun e w' => e = .returned (.tuple #[(if decOk l I = true then rdS l else zS).v, .bool (decOk l I)]) ∧ On w w' := by
  by_cases h3 : l.length = 3
  · obtain ⟨l0, l1, l2, rfl⟩ := list3 h3
    have hn : fld l2 16 8 < 256 := fld_lt _ _ _
    have hd : decOk [l0, l1, l2] I = (okS (rdS [l0, l1, l2]) I && sameV (slW (rdS [l0, l1, l2])) [l0, l1, l2]) := by
      unfold decOk sameV
      simp
    have ht : (txtV [l0, l1] (fld l2 16 8 : Nat)).size ≤ 9223372036854775807 := by
      unfold txtV
      split
      · show (textL [l0, l1] _).toArray.size ≤ _
        simp [textL]
        omega
      · exact Nat.zero_le _
    refine rdec_rest A l0 l1 l2 c P I B w _ _ _ (txtV [l0, l1] (fld l2 16 8 : Nat)) (txtE [l0, l1] (fld l2 16 8 : Nat)) (rdS [l0, l1, l2]) rfl rfl rfl rfl (decOk [l0, l1, l2] I) hg ht ?_ hr hl hcap fun W hW => ?_
    · by_cases hx : isTxt [l0, l1] (fld l2 16 8 : Nat)
      · rw [txtE_yes hx]
        cases ho : okS (rdS [l0, l1, l2]) I with
        | false => exact .inr (.inl ⟨rfl, rfl, by rw [hd, ho]; rfl⟩)
        | true => exact .inr (.inr ⟨rfl, rfl, by rw [hd, ho, Bool.true_and]⟩)
      · rw [txtE_no hx]
        exact .inl ⟨by decide, dec_long hx⟩
    · have hr2 : Row W A [l0, l1] := fun _ => by
        obtain ⟨ad, e, hlt, hcs⟩ := (hr.below hW) (by simp)
        exact ⟨ad, e, hlt, fun j hj => by
          have h := hcs j (by simp at hj ⊢; omega)
          match j, hj with
          | 0, _ => exact h
          | 1, _ => exact h
          | j + 2, hj => exact absurd hj (by simp)⟩
      exact rtext_calls A [l0, l1] c (fld l2 16 8 : Nat) W (by omega) (by omega) hr2 (fun j => by
        match j with
        | 0 => exact hl 0
        | 1 => exact hl 1
        | j + 2 => simp) (by simp)
  · have hd : decOk l I = false := by
      rw [Bool.eq_false_iff]
      exact fun h => h3 (decOk_of h).1
    rw [hd]
    exact rdec_len A l.length c P I B w h3
end Go.Proofs.YtipghcpodhokbaaDoor
