/- What check tells of words. -/
import Derived.Test.YtgedahjifbopcaaDoorSup3
import Derived.Test.YtgedahjifbopcaaDoorSupMath2
import Derived.Test.YtgedahjifbopcaaDoorErr2
namespace Go.Proofs.YtgedahjifbopcaaDoor
open Go.RowKit SumMath WordMath
/-- An error that tells a place, or none. -/
def errV : Option Nat → Value
  | none => .nilIface
  | some k => .iface 54 (.agg #[.int .i64 (k : Nat)])
/-- What a row of eight words holds. -/
theorem Row.eight {w : World} {A : Option Addr} {l : List Nat} (h : Row w A l) (h8 : l.length = 8) :
    ∃ b off sp, A = some ⟨b, off, sp⟩ ∧ b < w.heap.size ∧ w.cell? ⟨b, off, sp⟩ = some (.int .u64 (l.getD 0 0 : Nat)) ∧ w.cell? ⟨b, off + 1, none⟩ = some (.int .u64 (l.getD 1 0 : Nat)) := by
  obtain ⟨⟨b, off, sp⟩, e, hl, hc⟩ := h (by omega)
  exact ⟨b, off, sp, e, hl, hc 0 (by omega), hc 1 (by omega)⟩
theorem eight_at {w : World} {b off : Nat} {sp : Option Nat} {l : List Nat} (h : Row w (some ⟨b, off, sp⟩) l) {k : Nat} (hk : k < l.length) : w.cell? ((⟨b, off, sp⟩ : Addr).add k) = some (.int .u64 (l.getD k 0 : Nat)) := by
  obtain ⟨ad, e, _, hc⟩ := h (by omega)
  injection e with e
  subst e
  exact hc k hk
set_option maxRecDepth 100000 in
set_option maxHeartbeats 1000000 in
theorem check_len (A : Option Addr) (l : List Nat) (c : Nat) (w : World) (h8 : l.length ≠ 8) :
    Calls Tryd.prog 22 #[.slice A l.length c] w fun e w' => e = .returned (errV (badAt l)) ∧ Below w.heap.size w w' := by
  have hne8 : Hid (((l.length : Int) != 8) = true) := Lib.hid (by rw [bne_iff_ne]; omega)
  have hbad := Lib.hid (bad_len h8)
  clear h8
  go_enter Tryd.func22, Tryd.ntmps22
  go_wp2_with (fail)
  refine wp_region_rel2 (E := fun _ => false) (s := 100) (T0 := On) (T := On) (R := sps 0 titledO [.val (.slice A l.length c), .val (.int .i64 (l.length : Nat)), .val (.bool true), .val (.bool true), .any, .any, .any, .any, .any, .any, .any, .val (.bool true)])
    (by kernel_rfl) (by kernel_rfl) On.refl On.trans (fun h => h) On.trans (fun i v w w' h k => Sp2.stable h (WrT.on k)) (sps_un (by kernel_rfl)) (On.drawn _) (by kernel_rfl) ?steps ?rest
  case steps =>
    refine ⟨?s0, ?s1, ?s2, ?s3, ?s4, ?s5, ?s6, ?s7, ?s8, ?s9, ?s10, ?s11, trivial⟩
    case s0 =>
      exact fun a u hT h0 hA hd => .inl ⟨rfl, StepOK.move (.tmp 0) rfl (hA.eval 0 rfl) (On.refl _)⟩
    case s1 =>
      exact fun a u hT h0 hA hd => .inl ⟨rfl, stp_len (On.refl _) (.tmp 9) rfl A l.length c (dep hd 0 9 rfl rfl) rfl⟩
    case s2 =>
      exact fun a u hT h0 hA hd => .inl ⟨rfl, stp_neqI (On.refl _) (.tmp 10) 8 _ rfl (l.length : Nat) (dep hd 1 10 rfl rfl) (by show Value.bool _ = _; rw [hne8.out])⟩
    case s3 =>
      exact fun a u hT h0 hA hd => .inl ⟨rfl, StepOK.move (.tmp 11) rfl (dep hd 2 11 rfl rfl) (On.refl _)⟩
    case s4 =>
      exact fun a u hT h0 hA hd => .inr ⟨(wanted_of (g := 3) (want := false) (b := true) (d := 12) rfl rfl (dep hd 3 12 rfl rfl)).trans rfl, trivial⟩
    case s5 =>
      exact fun a u hT h0 hA hd => .inr ⟨(wanted_of (g := 3) (want := false) (b := true) (d := 12) rfl rfl (dep hd 3 12 rfl rfl)).trans rfl, trivial⟩
    case s6 =>
      exact fun a u hT h0 hA hd => .inr ⟨(wanted_of (g := 3) (want := false) (b := true) (d := 12) rfl rfl (dep hd 3 12 rfl rfl)).trans rfl, trivial⟩
    case s7 =>
      exact fun a u hT h0 hA hd => .inr ⟨(wanted_of (g := 3) (want := false) (b := true) (d := 12) rfl rfl (dep hd 3 12 rfl rfl)).trans rfl, trivial⟩
    case s8 =>
      exact fun a u hT h0 hA hd => .inr ⟨(wanted_of (g := 3) (want := false) (b := true) (d := 12) rfl rfl (dep hd 3 12 rfl rfl)).trans rfl, trivial⟩
    case s9 =>
      exact fun a u hT h0 hA hd => .inr ⟨(wanted_of (g := 3) (want := false) (b := true) (d := 12) rfl rfl (dep hd 3 12 rfl rfl)).trans rfl, trivial⟩
    case s10 =>
      exact fun a u hT h0 hA hd => .inr ⟨(wanted_of (g := 3) (want := false) (b := true) (d := 12) rfl rfl (dep hd 3 12 rfl rfl)).trans rfl, trivial⟩
    case s11 =>
      exact fun a u hT h0 hA hd => .inl ⟨rfl, stp_pickT (On.refl _) (.tmp 12) (.const (.bool true)) (.tmp 19) rfl (dep hd 3 12 rfl rfl) rfl⟩
  case rest =>
    intro vs u hT hR
    have h11 : vs 11 = .bool true := hR 11 (by decide)
    simp only [putsFrom, Act.put, List.setIfInBounds_toArray, List.set_cons_succ, List.set_cons_zero, h11]
    clear hR
    go_wp2_with (fail)
    go_ret
    rw [hbad.out]
    exact ⟨rfl, hT⟩
def ckp (_x0 : Nat) (l : List Nat) (w : World) (e : Ending) (w' : World) : Prop := e = .returned (errV (badAt l)) ∧ Below w.heap.size w w'
set_option maxRecDepth 100000 in
set_option maxHeartbeats 4000000 in
theorem check_eight (A : Option Addr) (l : List Nat) (c : Nat) (w : World) (hr : Row w A l) (hl : Wd l) (h8 : l.length = 8) (hcap : 8 ≤ c) (hT : TabAt w) :
    Calls Tryd.prog 22 #[.slice A 8 c] w fun e w' => e = .returned (errV (badAt l)) ∧ Below w.heap.size w w' := by
  obtain ⟨b, off, sp, rfl, hbl, hc0, hc1⟩ := hr.eight h8
  have hTl := hT.lt
  have HT := Lib.hid hT
  have hc0 := Lib.hid hc0
  have hc1 := Lib.hid hc1
  have h8 := Lib.hid h8
  clear hT
  generalize hx : l.getD 0 0 = x0 at *
  have hx := Lib.hid hx
  go_enter Tryd.func22, Tryd.ntmps22
  go_wp2_with (fail)
  refine wp_region_rel2 (E := fun _ => false) (s := 100) (T0 := On) (T := On) (R := sps 0 titledO [.val (.slice (some ⟨b, off, sp⟩) 8 c), .val (.int .i64 8), .val (.bool false), .val (.bool false), .val (.slice (some ⟨b, off, sp⟩) 8 c), .val (.pointer (some ⟨b, off, sp⟩)), .val (.int .u64 (x0 : Nat)), .row [titleW], .cell (.int .u64 (titleW : Nat)), .val (.int .u64 (titleW : Nat)), .val (.bool ((x0 : Int) != (titleW : Nat))), .val (.bool ((x0 : Int) != (titleW : Nat)))])
    (by kernel_rfl) (by kernel_rfl) On.refl On.trans (fun h => h) On.trans (fun i v w w' h k => Sp2.stable h (WrT.on k)) (sps_un (by kernel_rfl)) (On.drawn _) (by kernel_rfl) ?steps ?rest
  case steps =>
    refine ⟨?s0, ?s1, ?s2, ?s3, ?s4, ?s5, ?s6, ?s7, ?s8, ?s9, ?s10, ?s11, trivial⟩
    case s0 =>
      exact fun a u hT h0 hA hd => .inl ⟨rfl, StepOK.move (.tmp 0) rfl (hA.eval 0 rfl) (On.refl _)⟩
    case s1 =>
      exact fun a u hT h0 hA hd => .inl ⟨rfl, stp_len (On.refl _) (.tmp 9) rfl (some ⟨b, off, sp⟩) 8 c (dep hd 0 9 rfl rfl) rfl⟩
    case s2 =>
      exact fun a u hT h0 hA hd => .inl ⟨rfl, stp_neqI (On.refl _) (.tmp 10) 8 _ rfl 8 (dep hd 1 10 rfl rfl) rfl⟩
    case s3 =>
      exact fun a u hT h0 hA hd => .inl ⟨rfl, StepOK.move (.tmp 11) rfl (dep hd 2 11 rfl rfl) (On.refl _)⟩
    case s4 =>
      exact fun a u hT h0 hA hd => .inl ⟨(wanted_of (g := 3) (want := false) (b := false) (d := 12) rfl rfl (dep hd 3 12 rfl rfl)).trans rfl, StepOK.move (.tmp 0) rfl (hA.eval 0 rfl) (On.refl _)⟩
    case s5 =>
      exact fun a u hT h0 hA hd => .inl ⟨(wanted_of (g := 3) (want := false) (b := false) (d := 12) rfl rfl (dep hd 3 12 rfl rfl)).trans rfl, stp_iaddr0 (On.refl _) (.tmp 13) rfl b off sp 8 c (dep hd 4 13 rfl rfl) (by decide) rfl⟩
    case s6 =>
      intro a u hT h0 hA hd
      exact .inl ⟨(wanted_of (g := 3) (want := false) (b := false) (d := 12) rfl rfl (dep hd 3 12 rfl rfl)).trans rfl, stp_load64 (On.refl _) (.tmp 14) rfl ⟨b, off, sp⟩ _ (dep hd 5 14 rfl rfl) ((World.cell?_of_block (a := ⟨b, off, sp⟩) (Below.block hT b hbl)).trans hc0.out) rfl⟩
    case s7 =>
      intro a u hT h0 hA hd
      have hz := Below.size hT
      refine .inl ⟨(wanted_of (g := 3) (want := false) (b := false) (d := 12) rfl rfl (dep hd 3 12 rfl rfl)).trans rfl, StepOK.call 25 #[.string titleS] ?_ ((pack_title_calls u).mono ?_)⟩
      · unfold execOp
        simp [go_sem, titleS]
      · rintro e u' ⟨A1, c1, rfl, hr1, hfr, hb1⟩
        refine ⟨_, rfl, ⟨A1, c1, rfl, hr1, fun ad e => ?_⟩, hb1⟩
        obtain ⟨g, rfl, hg⟩ := hfr ad e
        show g ≠ _
        omega
    case s8 =>
      intro a u hT h0 hA hd
      obtain ⟨A1, c1, e2, hr1, hne1⟩ := (show (Sp2.row [titleW]).ok 0 titledO (a.eval (.tmp 16)) u from dep hd 7 16 rfl rfl)
      obtain ⟨⟨b1, o1, s1⟩, rfl, hl1, hc1⟩ := hr1 (by decide)
      exact .inl ⟨(wanted_of (g := 3) (want := false) (b := false) (d := 12) rfl rfl (dep hd 3 12 rfl rfl)).trans rfl, stp_iaddr0 (On.refl _) (.tmp 16) rfl b1 o1 s1 1 c1 e2 (by decide) ⟨⟨b1, o1, s1⟩, rfl, hl1, hc1 0 (by decide), hne1 _ rfl⟩⟩
    case s9 =>
      intro a u hT h0 hA hd
      obtain ⟨p, e2, hl1, hc1, hne1⟩ := (show (Sp2.cell (.int .u64 (titleW : Nat))).ok 0 titledO (a.eval (.tmp 17)) u from dep hd 8 17 rfl rfl)
      exact .inl ⟨(wanted_of (g := 3) (want := false) (b := false) (d := 12) rfl rfl (dep hd 3 12 rfl rfl)).trans rfl, stp_load64 (On.refl _) (.tmp 17) rfl p _ e2 hc1 rfl⟩
    case s10 =>
      exact fun a u hT h0 hA hd => .inl ⟨(wanted_of (g := 3) (want := false) (b := false) (d := 12) rfl rfl (dep hd 3 12 rfl rfl)).trans rfl, stp_neq64 (On.refl _) (.tmp 15) (.tmp 18) _ rfl (x0 : Nat) (titleW : Nat) (dep hd 6 15 rfl rfl) (dep hd 9 18 rfl rfl) rfl⟩
    case s11 =>
      exact fun a u hT h0 hA hd => .inl ⟨rfl, stp_pickF (On.refl _) (.tmp 12) (.const (.bool true)) (.tmp 19) rfl (dep hd 3 12 rfl rfl) (dep hd 10 19 rfl rfl)⟩
  case rest =>
    intro vs u hT hR
    have h11 : vs 11 = .bool ((x0 : Int) != (titleW : Nat)) := hR 11 (by decide)
    simp only [putsFrom, Act.put, List.setIfInBounds_toArray, List.set_cons_succ, List.set_cons_zero, h11]
    clear hR
    have hb1 : Below w.heap.size w u := hT
    have hr1 := hr.below hb1
    have HT1 := Lib.hid (HT.out.below hb1)
    clear hT
    generalize vs 4 = z4
    generalize vs 7 = z7
    by_cases ht : x0 = titleW
    case neg =>
      have e : ((x0 : Int) != (titleW : Nat)) = true := by rw [bne_iff_ne]; omega
      have hbad := Lib.hid (bad_title (l := l) (by rw [hx.out]; exact ht))
      rw [e]
      clear e ht
      go_wp2_with (fail)
      go_ret
      rw [hbad.out]
      exact ⟨rfl, hb1⟩
    have e : ((x0 : Int) != (titleW : Nat)) = false := by rw [ht]; simp
    have ht2 : l.getD 0 0 = titleW := by rw [hx.out]; exact ht
    rw [e]
    clear e ht
    have hO := open_calls (some ⟨b, off, sp⟩) l c u hr1 hl (by rw [h8.out]; decide) (by rw [h8.out]; exact hcap) HT1.out
    rw [h8.out] at hO
    go_wp2_with (fail)
    refine hO.mono ?_
    clear hO
    rintro e w2 ⟨A2, c2, rfl, hr2, hf2, hb2, hc2⟩
    have hb12 := hb1.trans (hb2.mono hb1.size)
    clear hr2 hf2 hc2
    by_cases hs : isSealed l
    case neg =>
      have hbad := Lib.hid (bad_seal h8.out ht2 hs)
      rw [openB_no hs]
      clear ht2 hs
      go_wp2_with (fail)
      go_ret
      rw [hbad.out]
      exact ⟨rfl, hb12⟩
    rw [openB_yes hs]
    have hS : Sld l := ⟨h8.out, ht2, hs⟩
    have hr2 := hr1.below hb2
    have d1 := (hb12.cell (p := ⟨b, off + 1, none⟩) hbl).trans hc1.out
    have hl1 := hl 1
    have HS := Lib.hid hS
    have HT2 := Lib.hid (HT.out.below hb12)
    clear hS ht2 hs hr1 hb1 hb2 HT1
    generalize openL l = ol
    generalize hfe : l.getD 1 0 = f at *
    have hfe := Lib.hid hfe
    go_wp2_with (fail)
    refine (specified_calls f _ hl1).mono ?_
    rintro e w3 ⟨rfl, hb3⟩
    have hb13 := hb12.trans (hb3.mono hb12.size)
    have hr3 := hr2.below hb3
    clear hr2 d1 hb12
    have hbx := On.alloc w3 (.cells #[.int .i64 (fP f : Nat), .int .i64 (fI f : Nat), .int .i64 (fB f : Nat)] 23)
    have hb14 := hb13.trans (Below.mono hbx hb13.size)
    by_cases hG : GOK (fP f) (fI f) (fB f)
    case neg =>
      have hbad := Lib.hid (bad_geom HS.out (by unfold Gd; rw [hfe.out]; exact hG))
      have HG := Lib.hid hG
      clear hG
      go_wp2_with (fail)
      refine (check_bad (fP f) (fI f) (fB f) _ HG.out).mono ?_
      rintro e w4 ⟨rfl, hb4⟩
      go_wp2_with (fail)
      go_ret
      rw [hbad.out]
      exact ⟨rfl, hb14.trans (hb4.mono hb14.size)⟩
    have HG := Lib.hid hG
    clear hG
    go_wp2_with (fail)
    refine (check_ok (fP f) (fI f) (fB f) _ HG.out).mono ?_
    rintro e w4 ⟨rfl, hb4⟩
    have hb15 := hb14.trans (hb4.mono hb14.size)
    obtain ⟨g0, g1, g2⟩ := three_cells (alloc_later hb4)
    have hlt4 : w3.heap.size < w4.heap.size := lt_of_cells (alloc_later hb4)
    have hr4 := (hr3.below hbx).below hb4
    have hC := compose_calls (fP f) (fI f) (fB f) (hB f) w4 (by rw [hN_hB]; exact f_fits f) (HT.out.below hb15)
    rw [hN_hB] at hC
    clear hr3 hb13 hb14 hb4 hbx hb3
    go_wp2_with (fail)
    refine hC.mono ?_
    clear hC
    rintro e w5 ⟨A5, c5, rfl, hr5, hf5, hb5, hc5⟩
    have hb16 := hb15.trans (hb5.mono hb15.size)
    have hr6 := hr4.below hb5
    rw [show (superL (fP f) (fI f) (fB f) (fH f)).length = 8 from rfl]
    have how : Hid (ownL l = superL (fP f) (fI f) (fB f) (fH f)) := Lib.hid (by unfold ownL; rw [hfe.out])
    rw [← how.out] at hr5
    clear hc5 hb15 hr4 g0 g1 g2 hlt4 hb5
    have hown8 : Hid ((ownL l).length = 8) := Lib.hid (own_len l)
    generalize hol : ownL l = ow at *
    have hol := Lib.hid hol
    obtain ⟨⟨g5, o5, s5⟩, rfl, _, hc5⟩ := hr5 (by rw [hown8.out]; decide)
    obtain ⟨g6, e6, _⟩ := hf5 _ rfl
    injection e6 with e6 e7 e8
    subst e6 e7 e8
    clear hf5 hr5
    go_wp2_with (fail)
    go_loop [48] (fun i => ∃ k : Nat, i = .int .i64 k ∧ k ≤ 8 ∧ SameTo l ow k) (fun i => 8 - (intOf i).toNat)
    case atStart => exact ⟨0, rfl, by decide, ⟨fun j hj => absurd hj (by omega)⟩⟩
    case round =>
      obtain ⟨k, rfl, hk, hsame⟩ := hrel
      by_cases hk8 : k < 8
      · have cA := eight_at hr6 (k := k) (by rw [h8.out]; exact hk8)
        have cB := hc5 k (by rw [hown8.out]; exact hk8)
        rw [add_zero_block] at cB
        by_cases he : l.getD k 0 = ow.getD k 0
        · have hs1 : Hid (SameTo l ow (k + 1)) := Lib.hid ⟨fun j hj => by
            by_cases hjk : j = k
            · rw [hjk]; exact he
            · exact hsame.all j (by omega)⟩
          rw [he] at cA
          clear he hsame
          generalize ow.getD k 0 = y at *
          go_wp2_with (fail)
          go_round
          case rel => exact ⟨k + 1, by go_num, by omega, hs1.out⟩
          case measure => simp [intOf]; omega
        · have hne : (((l.getD k 0 : Nat) : Int) != ((ow.getD k 0 : Nat) : Int)) = true := by rw [bne_iff_ne]; omega
          have hbad := Lib.hid (bad_first HS.out (by unfold Gd; rw [hfe.out]; exact HG.out) hk8 (by rw [hol.out]; exact hsame.all) (by rw [hol.out]; exact he))
          clear he hsame
          generalize ow.getD k 0 = y at *
          generalize l.getD k 0 = x at *
          go_wp2_with (fail)
          go_ret
          rw [hbad.out]
          exact ⟨rfl, hb16⟩
      · obtain rfl : k = 8 := by omega
        have hbad := Lib.hid (bad_none HS.out (by unfold Gd; rw [hfe.out]; exact HG.out) (by rw [hol.out]; exact hsame.all))
        clear hsame
        go_wp2_with (fail)
        go_ret
        rw [hbad.out]
        exact ⟨rfl, hb16⟩
end Go.Proofs.YtgedahjifbopcaaDoor
