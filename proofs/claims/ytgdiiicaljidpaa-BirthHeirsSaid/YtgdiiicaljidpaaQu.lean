/- BirthHeirs: whatever it is called with, it hands back true. -/
import Derived.Test.YtgdiiicaljidpaaQt
import Derived.Deep.DeepCutAuto
import Derived.Deep.LoopGhost
set_option linter.unusedSimpArgs false
set_option linter.unusedVariables false
namespace Go.Proofs.Ytgdiiicaljidpaa
open Go.RowKit
set_option maxRecDepth 100000 in
set_option maxHeartbeats 16000000 in
theorem heirs_law (A : Option Addr) (L : List Cx) (cL u v : Nat) (x : At) (p : ALie) (B : Option Addr) (M : List Nat) (cM : Nat) (w : World) (hcr : CRow w A L) (hLn : L.length ≤ 9223372036854775807) (hal : ALies w x p) (hsx : ABg x) (hkx : ∀ (k : Nat) q, x.xs[k]? = some q → q.key.size ≤ 9223372036854775807)
    (hmd : Cel w B (hv M)) (hMn : M.length ≤ 9223372036854775807) (hM6 : ∀ g ∈ M, g < 65536) (hu : u < 65536) (hv : v < 65536) :
    Calls Try.prog 5 #[.slice A L.length cL, .int .u16 (u : Nat), .int .u16 (v : Nat), x.v p, .slice B M.length cM] w fun e w' => e = .returned (.bool true) ∧ Below w.heap.size w w' := by
  obtain ⟨V, hV⟩ : ∃ V, V = w.alloc (.cells (x.c p) 31) := ⟨_, rfl⟩
  have S0 : Hid (Hx w V x p A L B M) := Lib.hid (by rw [hV]; exact Hx.start hal hcr hmd)
  have HGX := Lib.hid hsx
  have HKX := Lib.hid hkx
  have HM6 := Lib.hid hM6
  obtain ⟨nL, hnL⟩ : ∃ n, L.length = n := ⟨_, rfl⟩
  obtain ⟨nM, hnM⟩ : ∃ n, M.length = n := ⟨_, rfl⟩
  rw [hnL] at hLn ⊢
  rw [hnM] at hMn ⊢
  have HNL := Lib.hid hnL
  have HNM := Lib.hid hnM
  clear hcr hal hsx hkx hmd hM6 hnL hnM
  go_enter Try.func5, Try.ntmps5
  go_upto_region 1 with (fail)
  rw [← hV]
  clear hV
  by_cases hl20 : 20 < nL
  case pos =>
    have e1 : decide ((20 : Int) < (nL : Int)) = true := by rw [decide_eq_true_eq]; omega
    go_wp2_with (fail)
    refine (alive_calls _).mono ?_
    rintro e w99 ⟨rfl, hb⟩
    have HBZ := Lib.hid ((S0.out.be).trans (hb.mono (S0.out.be).size))
    clear hb
    go_wp2_with (fail)
    go_ret
    exact ⟨rfl, HBZ.out⟩
  case neg =>
  have e1 : decide ((20 : Int) < (nL : Int)) = false := by rw [decide_eq_false_iff_not]; omega
  by_cases hm20 : 20 < nM
  case pos =>
    have e2 : decide ((20 : Int) < (nM : Int)) = true := by rw [decide_eq_true_eq]; omega
    go_wp2_with (fail)
    refine (alive_calls _).mono ?_
    rintro e w99 ⟨rfl, hb⟩
    have HBZ := Lib.hid ((S0.out.be).trans (hb.mono (S0.out.be).size))
    clear hb
    go_wp2_with (fail)
    go_ret
    exact ⟨rfl, HBZ.out⟩
  case neg =>
  have e2 : decide ((20 : Int) < (nM : Int)) = false := by rw [decide_eq_false_iff_not]; omega
  go_wp2_with (first
  | (refine wpList_load_part rfl 31 (.tmp 8) rfl w.heap.size 0 rfl (At.c x p).toList _ (S0.out.bt).bt0 Try.underlying31 rfl attr_size (At.v x p) rfl ?_))
  refine (ramayG_calls x p V S0.out.al HGX.out HKX.out).mono ?_
  rintro e w1 ⟨rfl, hb⟩
  have S := Lib.hid (S0.out.on hb)
  clear hb S0 HGX HKX e1 e2
  cases hmx : amayB x
  case false =>
    clear hmx
    go_wp2_with (fail)
    refine (alive_calls _).mono ?_
    rintro e w99 ⟨rfl, hb⟩
    have HBZ := Lib.hid ((S.out.be).trans (hb.mono (S.out.be).size))
    clear hb
    go_wp2_with (fail)
    go_ret
    exact ⟨rfl, HBZ.out⟩
  case true =>
  have HMX := Lib.hid hmx
  have HSX := Lib.hid (asm_of hmx)
  clear hmx
  go_wp2_with (first
  | (refine wpList_load_part rfl 31 (.tmp 8) rfl w.heap.size 0 rfl (At.c x p).toList _ (S.out.bt).bt0 Try.underlying31 rfl attr_size (At.v x p) rfl ?_))
  refine (racopy_calls x p w1 S.out.al HSX.out).mono ?_
  rintro e w2 ⟨q0, rfl, hC0, hb⟩
  have S := Lib.hid (S.out.on hb)
  have how := AOw.of hC0
  clear hb hC0
  obtain ⟨C, hC⟩ : ∃ C, C = At.c x q0 := ⟨_, rfl⟩
  have hone : C.all (·.oneCell') = true := by rw [hC]; exact c_one _ _
  have hsz : (Try.prog.info? 31).map (·.size) = some C.size := by rw [hC]; exact c_size _ _
  have hold : (zAt : Array Value).size = C.size := by rw [hC]; rfl
  have HZn := Lib.hid (heap_alloc_new w2 (.cells zAt 31))
  obtain ⟨U0, hU⟩ : ∃ Zz, Zz = (w2.alloc (.cells zAt 31)).setRow w2.heap.size C := ⟨_, rfl⟩
  obtain ⟨g0, hg⟩ : ∃ Zz, Zz = w2.heap.size := ⟨_, rfl⟩
  have hb : Below w2.heap.size w2 U0 := by rw [hU]; exact put_below w2 C
  have HP0 : Hid (Ho U0 g0 x q0) := Lib.hid (by rw [hU, hg, hC]; exact Ho.fresh how)
  have HG0 : Hid (w.heap.size < g0) := Lib.hid (by have := S.out.bt.lt; omega)
  have S := Lib.hid (S.out.on hb)
  have HUU := Lib.hid hU
  rw [show At.v x q0 = .agg C by rw [hC]]
  clear hC hb hU how
  go_upto_region 4 with (refine wpList_store_rowTo rfl 31 (.tmp 11) (.tmp 35) rfl rfl w2.heap.size C rfl rfl 31 _ HZn.out hsz hold hone ?_; rw [← HUU.out])
  clear HUU HZn hsz hold hone
  rw [← hg]
  clear hg
  go_wp2_with (fail)
  go_loopw [12, 13, 14, 15, 16, 17, 18, 19] (fun i _ _ _ _ _ _ _ wr => ∃ (k : Nat) (y : At) (q : ALie), i = .int .i64 k ∧ k ≤ nL ∧ Hid (Heir x y) ∧ Hid (Hx w wr x p A L B M) ∧ Hid (Ho wr g0 y q)) (fun i _ _ _ _ _ _ _ _ => nL - (intOf i).toNat)
  case atStart => exact ⟨0, x, q0, rfl, by omega, Lib.hid (Heir.self HMX.out), S, HP0⟩
  case round =>
    obtain ⟨k, y, q, rfl, hk, HE, S1, HP⟩ := hrel
    clear S HP0
    have S := S1
    clear S1
    by_cases hkn : k < nL
    case neg =>
      obtain rfl : k = nL := by omega
      go_wp2_with (fail)
      refine (alive_calls _).mono ?_
      rintro e w99 ⟨rfl, hb⟩
      have HBZ := Lib.hid ((S.out.be).trans (hb.mono (S.out.be).size))
      clear hb
      go_wp2_with (fail)
      go_ret
      exact ⟨rfl, HBZ.out⟩
    case pos =>
    obtain ⟨⟨c, Ag, nc⟩, hz⟩ : ∃ z, L[k]? = some z := ⟨_, List.getElem?_eq_getElem (by rw [HNL.out]; exact hkn)⟩
    obtain ⟨b, o, rfl, _, _⟩ := S.out.cr0.row (by rw [HNL.out]; omega)
    have HCE : Hid (∀ u', Hx w u' x p (some ⟨b, o, none⟩) L B M → ∀ j vv, (c.c Ag nc).toList[j]? = some vv → u'.cell? ⟨b, o + k * 4 + j, none⟩ = some vv) := Lib.hid (fun u' hS j vv hj => by
      obtain ⟨b', o', hA', _, hc⟩ := hS.cr.row (by rw [HNL.out]; omega)
      injection hA' with hA'
      injection hA' with e1 e2
      subst e1 e2
      exact hc k _ hz j vv hj)
    have HCLI : Hid (∀ u', Hx w u' x p (some ⟨b, o, none⟩) L B M → CLies u' c Ag) := Lib.hid (fun u' hS => hS.cr.li k _ hz)
    have HKN := Lib.hid hkn
    have c2 := HCE.out wr S.out 2 _ rfl
    obtain ⟨nG, hnG⟩ : ∃ n, c.gs.length = n := ⟨_, rfl⟩
    rw [hnG] at c2
    have hcl := (HCLI.out wr S.out).sm
    rw [hnG] at hcl
    have HNG := Lib.hid hnG
    clear hz hnG
    by_cases h4 : 4 < nG
    case pos =>
      have e4 : decide ((4 : Int) < (nG : Int)) = true := by rw [decide_eq_true_eq]; omega
      go_wp2_with (fail)
      refine (alive_calls _).mono ?_
      rintro e w99 ⟨rfl, hb⟩
      have HBZ := Lib.hid ((S.out.be).trans (hb.mono (S.out.be).size))
      clear hb
      go_wp2_with (fail)
      go_ret
      exact ⟨rfl, HBZ.out⟩
    case neg =>
    have e4 : decide ((4 : Int) < (nG : Int)) = false := by rw [decide_eq_false_iff_not]; omega
    have HGS : Hid (c.gs.length ≤ 4) := Lib.hid (by rw [HNG.out]; omega)
    clear hcl
    by_cases hkm : k < nM
    case pos =>
      obtain ⟨bm, om, rfl, _, hmc⟩ := S.out.md.at0 (by rw [hv_length, HNM.out]; omega)
      obtain ⟨mm, hmm⟩ : ∃ m, M[k]? = some m := ⟨_, List.getElem?_eq_getElem (by rw [HNM.out]; exact hkm)⟩
      have ym := hmc k _ (hv_get hmm)
      have hm6 : mm < 65536 := HM6.out mm (List.mem_of_getElem? hmm)
      clear hmc hmm
      go_upto_region 12 with (fail)
      clear ym c2 e4
      obtain ⟨X1, hX1⟩ : ∃ X, newX c u y 1 (mm) = X := ⟨_, rfl⟩
      obtain ⟨X2, hX2⟩ : ∃ X, newX c u y 2 (mm) = X := ⟨_, rfl⟩
      obtain ⟨X3, hX3⟩ : ∃ X, newX c v y 2 (mm) = X := ⟨_, rfl⟩
      have hsy := asm_of HE.out.may
      have HC1 : Hid (∀ (W : World), CLies W c Ag → ALies W y q → Calls Try.prog 11 #[c.v Ag nc, .int .u16 (u : Nat), y.v q, .int .u8 1, .int .u16 (mm : Nat)] W fun e w' => ∃ q, e = .returned (.tuple #[At.v X1 q, .int .i64 0]) ∧ AOw w' X1 q ∧ Below W.heap.size W w') := Lib.hid (fun W h1 h2 => by
        have h := new_calls c Ag nc u y q 1 (mm) W h1 h2 hsy hu hm6
        have hb := heir_beg HGS.out HE.out.may 1 (by decide) (by decide)
        rw [new_yes hb, newN_yes hb, hX1] at h
        exact h)
      have HC2 : Hid (∀ (W : World), CLies W c Ag → ALies W y q → Calls Try.prog 11 #[c.v Ag nc, .int .u16 (u : Nat), y.v q, .int .u8 2, .int .u16 (mm : Nat)] W fun e w' => ∃ q, e = .returned (.tuple #[At.v X2 q, .int .i64 0]) ∧ AOw w' X2 q ∧ Below W.heap.size W w') := Lib.hid (fun W h1 h2 => by
        have h := new_calls c Ag nc u y q 2 (mm) W h1 h2 hsy hu hm6
        have hb := heir_beg HGS.out HE.out.may 2 (by decide) (by decide)
        rw [new_yes hb, newN_yes hb, hX2] at h
        exact h)
      have HC3 : Hid (∀ (W : World), CLies W c Ag → ALies W y q → Calls Try.prog 11 #[c.v Ag nc, .int .u16 (v : Nat), y.v q, .int .u8 2, .int .u16 (mm : Nat)] W fun e w' => ∃ q, e = .returned (.tuple #[At.v X3 q, .int .i64 0]) ∧ AOw w' X3 q ∧ Below W.heap.size W w') := Lib.hid (fun W h1 h2 => by
        have h := new_calls c Ag nc v y q 2 (mm) W h1 h2 hsy hv hm6
        have hb := heir_beg HGS.out HE.out.may 2 (by decide) (by decide)
        rw [new_yes hb, newN_yes hb, hX3] at h
        exact h)
      have HF1 : Hid (X1.hd = false) := Lib.hid (by rw [← hX1]; rfl)
      have HGI : Hid (x.bi &&& 2 ≠ 0 → X1.gi = x.gi ∧ X2.gi = x.gi) := Lib.hid (fun h0 => ⟨by rw [← hX1]; exact HE.out.gid c h0, by rw [← hX2]; exact HE.out.gid c h0⟩)
      have HEN : Hid (Heir x X2) := Lib.hid (by rw [← hX2]; exact HE.out.next c u (mm))
      have HUM : Hid (x.hd = true → X3 = X2) := Lib.hid (fun h0 => by rw [← hX3, ← hX2]; exact heir_umask (HE.out.hd.trans h0) c u v (mm))
      clear hX1 hX2 hX3 hsy
      refine wp_region_put (R4 [.val (.slice (some ⟨b, o, none⟩) nL cL), .val (.int .i64 (k : Nat)), .val (.pointer (some ⟨b, o + k * 4, none⟩)), .val (c.v Ag nc), .val (.int .u16 (u : Nat)), .val (At.v y q), .val (.int .u16 (mm : Nat)), tupS X1 0, tupS X1 0, attS X1, .val (.int .i64 0), ptrS wr.heap.size, .any, .val (.int .i64 0)]) (PutZ wr.heap.size X1) 12 11 9 14 67 31 rfl rfl rfl rfl rfl rfl rfl rfl (by kernel_rfl) (by kernel_rfl) (by kernel_rfl) (by kernel_rfl) (by kernel_rfl) (fun _ _ _ _ h k => Sp4.stable h k) PutZ.on (fun _ _ => trivial) ?steps (put_store ?turns rfl rfl) ?last
      case turns =>
        intro s hs
        simp only [List.mem_cons, List.not_mem_nil, or_false] at hs
        rcases hs with rfl | rfl | rfl | rfl | rfl | rfl | rfl | rfl | rfl | rfl | rfl | rfl | rfl | rfl
        all_goals first | exact turns_val _ | exact turns_tup _ _ | exact turns_att _ | exact turns_ptr _ | exact turns_any
      case steps =>
        refine ⟨fun _ => ?s0, fun _ => ?s1, fun _ => ?s2, fun _ => ?s3, fun _ => ?s4, fun _ => ?s5, fun _ => ?s6, fun _ => ?s7, fun _ => ?s8, fun _ => ?s9, fun _ => ?s10, fun _ => ?s11, fun h => absurd rfl h, fun _ => ?s13, trivial⟩
        case s0 =>
          exact st4_val _ rfl (.inl rfl) fun a u' hb hA hd => by
            have q0 := ev_of (show a.eval (.tmp 0) = .slice (some ⟨b, o, none⟩) nL cL from hA.eval 0 rfl)
            unfold execOp
            simp [go_sem, q0]
        case s1 =>
          exact st4_val _ rfl (.inl rfl) fun a u' hb hA hd => by
            have q0 := ev_of (show a.eval (.tmp 12) = .int .i64 (k : Nat) from hA.eval 12 rfl)
            unfold execOp
            simp [go_sem, q0]
        case s2 =>
          exact st4_val _ rfl (.inl rfl) fun a u' hb hA hd => run_iaddrC rfl b o nL cL k (hd 0 59 rfl rfl _ rfl) (hd 1 60 rfl rfl _ rfl) HKN.out
        case s3 =>
          exact st4_val _ rfl (.inl rfl) fun a u' hb hA hd => one_cells 25 rfl b (o + k * 4) (hd 2 61 rfl rfl _ rfl) (c.c Ag nc).toList _ (HCE.out u' (S.out.on hb)) Try.underlying25 rfl cred_size
        case s4 =>
          exact st4_val _ rfl (.inl rfl) fun a u' hb hA hd => by
            have q0 := ev_of (show a.eval (.tmp 1) = .int .u16 (u : Nat) from hA.eval 1 rfl)
            unfold execOp
            simp [go_sem, q0]
        case s5 =>
          exact st4_val _ rfl (.inl rfl) fun a u' hb hA hd => run_loadT rfl g0 y q (hA.eval 11 rfl) (HP.out.bt.on hb)
        case s6 =>
          exact st4_val _ rfl (.inl rfl) fun a u' hb hA hd => by
            have q0 := ev_of (show a.eval (.tmp 13) = .int .u16 (mm : Nat) from hA.eval 13 rfl)
            unfold execOp
            simp [go_sem, q0]
        case s7 =>
          refine st4_call _ rfl (.inl rfl) 11 fun a u' hb hA hd => ?_
          have q0 := ev_of (show a.eval (.tmp 62) = c.v Ag nc from hd 3 62 rfl rfl _ rfl)
          have q1 := ev_of (show a.eval (.tmp 63) = .int .u16 (u : Nat) from hd 4 63 rfl rfl _ rfl)
          have q2 := ev_of (show a.eval (.tmp 64) = At.v y q from hd 5 64 rfl rfl _ rfl)
          have q3 := ev_of (show a.eval (.tmp 65) = .int .u16 (mm : Nat) from hd 6 65 rfl rfl _ rfl)
          refine ⟨#[c.v Ag nc, .int .u16 (u : Nat), At.v y q, .int .u8 1, .int .u16 (mm : Nat)], ?_, (HC1.out u' (HCLI.out u' (S.out.on hb)) (HP.out.on hb).li).mono ?_⟩
          · unfold execOp
            simp [go_sem, q0, q1, q2, q3]
          · rintro e w' ⟨q', rfl, how, hb'⟩
            exact ⟨_, rfl, ⟨q', rfl, how⟩, hb'⟩
        case s8 =>
          exact st4_move 7 66 rfl (.inl rfl) rfl rfl rfl
        case s9 =>
          refine st4_gen _ rfl (.inl rfl) fun a u' hb hA hd => ?_
          obtain ⟨q', e, how⟩ := (show ∃ q', a.eval (.tmp 58) = .tuple #[At.v X1 q', .int .i64 0] ∧ AOw u' X1 q' from hd 8 58 rfl rfl _ rfl)
          have e' := ev_of e
          refine ⟨At.v X1 q', u', ?_, ⟨q', rfl, how⟩, On.refl _⟩
          unfold execOp
          simp [go_sem, e']
        case s10 =>
          refine st4_gen _ rfl (.inl rfl) fun a u' hb hA hd => ?_
          obtain ⟨q', e, how⟩ := (show ∃ q', a.eval (.tmp 58) = .tuple #[At.v X1 q', .int .i64 0] ∧ AOw u' X1 q' from hd 8 58 rfl rfl _ rfl)
          have e' := ev_of e
          refine ⟨.int .i64 0, u', ?_, rfl, On.refl _⟩
          unfold execOp
          simp [go_sem, e']
        case s11 =>
          refine st4_gen _ rfl (.inl rfl) fun a u' hb hA hd => ?_
          exact ⟨_, _, run_allocT rfl, ⟨u'.heap.size, zAt, rfl, hb.size, heap_alloc_new u' _, rfl⟩, on_alloc u' _⟩
        case s13 =>
          exact st4_assign 10 68 rfl (.inl rfl) rfl rfl rfl
      case last =>
      intro vs U1 hb hR hZ
      obtain ⟨gf, qf, e11, hgB, hh⟩ := hZ
      have e13 : vs 13 = .int .i64 0 := R4.at (.val (.int .i64 0)) rfl (hR 13 (by decide))
      simp only [putsFrom, Act.put, List.setIfInBounds_toArray, List.set_cons_succ, List.set_cons_zero, e11, e13]
      generalize vs 0 = z0_gf
      generalize vs 1 = z1_gf
      generalize vs 2 = z2_gf
      generalize vs 3 = z3_gf
      generalize vs 4 = z4_gf
      generalize vs 5 = z5_gf
      generalize vs 6 = z6_gf
      generalize vs 7 = z7_gf
      generalize vs 8 = z8_gf
      generalize vs 9 = z9_gf
      generalize vs 10 = z10_gf
      have S := Lib.hid (S.out.on hb)
      have HP := Lib.hid (HP.out.on hb)
      have HF : Hid (Ho U1 gf X1 qf) := Lib.hid hh
      
      clear hb hR hh hgB e11 e13
      go_upto_region 13 with (fail)
      refine wp_region_put (R4 [.val (.slice (some ⟨b, o, none⟩) nL cL), .val (.int .i64 (k : Nat)), .val (.pointer (some ⟨b, o + k * 4, none⟩)), .val (c.v Ag nc), .val (.int .u16 (u : Nat)), .val (At.v y q), .val (.int .u16 (mm : Nat)), tupS X2 0, tupS X2 0, attS X2, .val (.int .i64 0), ptrS U1.heap.size, .any, .val (.int .i64 0)]) (PutZ U1.heap.size X2) 12 11 9 16 78 31 rfl rfl rfl rfl rfl rfl rfl rfl (by kernel_rfl) (by kernel_rfl) (by kernel_rfl) (by kernel_rfl) (by kernel_rfl) (fun _ _ _ _ h k => Sp4.stable h k) PutZ.on (fun _ _ => trivial) ?steps (put_store ?turns rfl rfl) ?last
      case turns =>
        intro s hs
        simp only [List.mem_cons, List.not_mem_nil, or_false] at hs
        rcases hs with rfl | rfl | rfl | rfl | rfl | rfl | rfl | rfl | rfl | rfl | rfl | rfl | rfl | rfl
        all_goals first | exact turns_val _ | exact turns_tup _ _ | exact turns_att _ | exact turns_ptr _ | exact turns_any
      case steps =>
        refine ⟨fun _ => ?s0, fun _ => ?s1, fun _ => ?s2, fun _ => ?s3, fun _ => ?s4, fun _ => ?s5, fun _ => ?s6, fun _ => ?s7, fun _ => ?s8, fun _ => ?s9, fun _ => ?s10, fun _ => ?s11, fun h => absurd rfl h, fun _ => ?s13, trivial⟩
        case s0 =>
          exact st4_val _ rfl (.inl rfl) fun a u' hb hA hd => by
            have q0 := ev_of (show a.eval (.tmp 0) = .slice (some ⟨b, o, none⟩) nL cL from hA.eval 0 rfl)
            unfold execOp
            simp [go_sem, q0]
        case s1 =>
          exact st4_val _ rfl (.inl rfl) fun a u' hb hA hd => by
            have q0 := ev_of (show a.eval (.tmp 12) = .int .i64 (k : Nat) from hA.eval 12 rfl)
            unfold execOp
            simp [go_sem, q0]
        case s2 =>
          exact st4_val _ rfl (.inl rfl) fun a u' hb hA hd => run_iaddrC rfl b o nL cL k (hd 0 70 rfl rfl _ rfl) (hd 1 71 rfl rfl _ rfl) HKN.out
        case s3 =>
          exact st4_val _ rfl (.inl rfl) fun a u' hb hA hd => one_cells 25 rfl b (o + k * 4) (hd 2 72 rfl rfl _ rfl) (c.c Ag nc).toList _ (HCE.out u' (S.out.on hb)) Try.underlying25 rfl cred_size
        case s4 =>
          exact st4_val _ rfl (.inl rfl) fun a u' hb hA hd => by
            have q0 := ev_of (show a.eval (.tmp 1) = .int .u16 (u : Nat) from hA.eval 1 rfl)
            unfold execOp
            simp [go_sem, q0]
        case s5 =>
          exact st4_val _ rfl (.inl rfl) fun a u' hb hA hd => run_loadT rfl g0 y q (hA.eval 11 rfl) (HP.out.bt.on hb)
        case s6 =>
          exact st4_val _ rfl (.inl rfl) fun a u' hb hA hd => by
            have q0 := ev_of (show a.eval (.tmp 13) = .int .u16 (mm : Nat) from hA.eval 13 rfl)
            unfold execOp
            simp [go_sem, q0]
        case s7 =>
          refine st4_call _ rfl (.inl rfl) 11 fun a u' hb hA hd => ?_
          have q0 := ev_of (show a.eval (.tmp 73) = c.v Ag nc from hd 3 73 rfl rfl _ rfl)
          have q1 := ev_of (show a.eval (.tmp 74) = .int .u16 (u : Nat) from hd 4 74 rfl rfl _ rfl)
          have q2 := ev_of (show a.eval (.tmp 75) = At.v y q from hd 5 75 rfl rfl _ rfl)
          have q3 := ev_of (show a.eval (.tmp 76) = .int .u16 (mm : Nat) from hd 6 76 rfl rfl _ rfl)
          refine ⟨#[c.v Ag nc, .int .u16 (u : Nat), At.v y q, .int .u8 2, .int .u16 (mm : Nat)], ?_, (HC2.out u' (HCLI.out u' (S.out.on hb)) (HP.out.on hb).li).mono ?_⟩
          · unfold execOp
            simp [go_sem, q0, q1, q2, q3]
          · rintro e w' ⟨q', rfl, how, hb'⟩
            exact ⟨_, rfl, ⟨q', rfl, how⟩, hb'⟩
        case s8 =>
          exact st4_move 7 77 rfl (.inl rfl) rfl rfl rfl
        case s9 =>
          refine st4_gen _ rfl (.inl rfl) fun a u' hb hA hd => ?_
          obtain ⟨q', e, how⟩ := (show ∃ q', a.eval (.tmp 69) = .tuple #[At.v X2 q', .int .i64 0] ∧ AOw u' X2 q' from hd 8 69 rfl rfl _ rfl)
          have e' := ev_of e
          refine ⟨At.v X2 q', u', ?_, ⟨q', rfl, how⟩, On.refl _⟩
          unfold execOp
          simp [go_sem, e']
        case s10 =>
          refine st4_gen _ rfl (.inl rfl) fun a u' hb hA hd => ?_
          obtain ⟨q', e, how⟩ := (show ∃ q', a.eval (.tmp 69) = .tuple #[At.v X2 q', .int .i64 0] ∧ AOw u' X2 q' from hd 8 69 rfl rfl _ rfl)
          have e' := ev_of e
          refine ⟨.int .i64 0, u', ?_, rfl, On.refl _⟩
          unfold execOp
          simp [go_sem, e']
        case s11 =>
          refine st4_gen _ rfl (.inl rfl) fun a u' hb hA hd => ?_
          exact ⟨_, _, run_allocT rfl, ⟨u'.heap.size, zAt, rfl, hb.size, heap_alloc_new u' _, rfl⟩, on_alloc u' _⟩
        case s13 =>
          exact st4_assign 10 79 rfl (.inl rfl) rfl rfl rfl
      case last =>
      intro vs U2 hb hR hZ
      obtain ⟨gd, qd, e11, hgB, hh⟩ := hZ
      have e13 : vs 13 = .int .i64 0 := R4.at (.val (.int .i64 0)) rfl (hR 13 (by decide))
      simp only [putsFrom, Act.put, List.setIfInBounds_toArray, List.set_cons_succ, List.set_cons_zero, e11, e13]
      generalize vs 0 = z0_gd
      generalize vs 1 = z1_gd
      generalize vs 2 = z2_gd
      generalize vs 3 = z3_gd
      generalize vs 4 = z4_gd
      generalize vs 5 = z5_gd
      generalize vs 6 = z6_gd
      generalize vs 7 = z7_gd
      generalize vs 8 = z8_gd
      generalize vs 9 = z9_gd
      generalize vs 10 = z10_gd
      have S := Lib.hid (S.out.on hb)
      have HP0 := Lib.hid HP.out.bt.lt
      have HP := Lib.hid (HP.out.on hb)
      have HD : Hid (Ho U2 gd X2 qd) := Lib.hid hh
      have HF := Lib.hid (HF.out.on hb)
      have HGD : Hid (w.heap.size < gd ∧ gd ≠ g0) := Lib.hid (by have := HG0.out; have := HP0.out; omega)
      clear hb hR hh hgB e11 e13
      go_upto_region 14 with (fail)
      refine wp_region_put (R4 [.val (.slice (some ⟨b, o, none⟩) nL cL), .val (.int .i64 (k : Nat)), .val (.pointer (some ⟨b, o + k * 4, none⟩)), .val (c.v Ag nc), .val (.int .u16 (v : Nat)), .val (At.v y q), .val (.int .u16 (mm : Nat)), tupS X3 0, tupS X3 0, attS X3, .val (.int .i64 0), ptrS U2.heap.size, .any, .val (.int .i64 0)]) (PutZ U2.heap.size X3) 12 11 9 18 89 31 rfl rfl rfl rfl rfl rfl rfl rfl (by kernel_rfl) (by kernel_rfl) (by kernel_rfl) (by kernel_rfl) (by kernel_rfl) (fun _ _ _ _ h k => Sp4.stable h k) PutZ.on (fun _ _ => trivial) ?steps (put_store ?turns rfl rfl) ?last
      case turns =>
        intro s hs
        simp only [List.mem_cons, List.not_mem_nil, or_false] at hs
        rcases hs with rfl | rfl | rfl | rfl | rfl | rfl | rfl | rfl | rfl | rfl | rfl | rfl | rfl | rfl
        all_goals first | exact turns_val _ | exact turns_tup _ _ | exact turns_att _ | exact turns_ptr _ | exact turns_any
      case steps =>
        refine ⟨fun _ => ?s0, fun _ => ?s1, fun _ => ?s2, fun _ => ?s3, fun _ => ?s4, fun _ => ?s5, fun _ => ?s6, fun _ => ?s7, fun _ => ?s8, fun _ => ?s9, fun _ => ?s10, fun _ => ?s11, fun h => absurd rfl h, fun _ => ?s13, trivial⟩
        case s0 =>
          exact st4_val _ rfl (.inl rfl) fun a u' hb hA hd => by
            have q0 := ev_of (show a.eval (.tmp 0) = .slice (some ⟨b, o, none⟩) nL cL from hA.eval 0 rfl)
            unfold execOp
            simp [go_sem, q0]
        case s1 =>
          exact st4_val _ rfl (.inl rfl) fun a u' hb hA hd => by
            have q0 := ev_of (show a.eval (.tmp 12) = .int .i64 (k : Nat) from hA.eval 12 rfl)
            unfold execOp
            simp [go_sem, q0]
        case s2 =>
          exact st4_val _ rfl (.inl rfl) fun a u' hb hA hd => run_iaddrC rfl b o nL cL k (hd 0 81 rfl rfl _ rfl) (hd 1 82 rfl rfl _ rfl) HKN.out
        case s3 =>
          exact st4_val _ rfl (.inl rfl) fun a u' hb hA hd => one_cells 25 rfl b (o + k * 4) (hd 2 83 rfl rfl _ rfl) (c.c Ag nc).toList _ (HCE.out u' (S.out.on hb)) Try.underlying25 rfl cred_size
        case s4 =>
          exact st4_val _ rfl (.inl rfl) fun a u' hb hA hd => by
            have q0 := ev_of (show a.eval (.tmp 2) = .int .u16 (v : Nat) from hA.eval 2 rfl)
            unfold execOp
            simp [go_sem, q0]
        case s5 =>
          exact st4_val _ rfl (.inl rfl) fun a u' hb hA hd => run_loadT rfl g0 y q (hA.eval 11 rfl) (HP.out.bt.on hb)
        case s6 =>
          exact st4_val _ rfl (.inl rfl) fun a u' hb hA hd => by
            have q0 := ev_of (show a.eval (.tmp 13) = .int .u16 (mm : Nat) from hA.eval 13 rfl)
            unfold execOp
            simp [go_sem, q0]
        case s7 =>
          refine st4_call _ rfl (.inl rfl) 11 fun a u' hb hA hd => ?_
          have q0 := ev_of (show a.eval (.tmp 84) = c.v Ag nc from hd 3 84 rfl rfl _ rfl)
          have q1 := ev_of (show a.eval (.tmp 85) = .int .u16 (v : Nat) from hd 4 85 rfl rfl _ rfl)
          have q2 := ev_of (show a.eval (.tmp 86) = At.v y q from hd 5 86 rfl rfl _ rfl)
          have q3 := ev_of (show a.eval (.tmp 87) = .int .u16 (mm : Nat) from hd 6 87 rfl rfl _ rfl)
          refine ⟨#[c.v Ag nc, .int .u16 (v : Nat), At.v y q, .int .u8 2, .int .u16 (mm : Nat)], ?_, (HC3.out u' (HCLI.out u' (S.out.on hb)) (HP.out.on hb).li).mono ?_⟩
          · unfold execOp
            simp [go_sem, q0, q1, q2, q3]
          · rintro e w' ⟨q', rfl, how, hb'⟩
            exact ⟨_, rfl, ⟨q', rfl, how⟩, hb'⟩
        case s8 =>
          exact st4_move 7 88 rfl (.inl rfl) rfl rfl rfl
        case s9 =>
          refine st4_gen _ rfl (.inl rfl) fun a u' hb hA hd => ?_
          obtain ⟨q', e, how⟩ := (show ∃ q', a.eval (.tmp 80) = .tuple #[At.v X3 q', .int .i64 0] ∧ AOw u' X3 q' from hd 8 80 rfl rfl _ rfl)
          have e' := ev_of e
          refine ⟨At.v X3 q', u', ?_, ⟨q', rfl, how⟩, On.refl _⟩
          unfold execOp
          simp [go_sem, e']
        case s10 =>
          refine st4_gen _ rfl (.inl rfl) fun a u' hb hA hd => ?_
          obtain ⟨q', e, how⟩ := (show ∃ q', a.eval (.tmp 80) = .tuple #[At.v X3 q', .int .i64 0] ∧ AOw u' X3 q' from hd 8 80 rfl rfl _ rfl)
          have e' := ev_of e
          refine ⟨.int .i64 0, u', ?_, rfl, On.refl _⟩
          unfold execOp
          simp [go_sem, e']
        case s11 =>
          refine st4_gen _ rfl (.inl rfl) fun a u' hb hA hd => ?_
          exact ⟨_, _, run_allocT rfl, ⟨u'.heap.size, zAt, rfl, hb.size, heap_alloc_new u' _, rfl⟩, on_alloc u' _⟩
        case s13 =>
          exact st4_assign 10 90 rfl (.inl rfl) rfl rfl rfl
      case last =>
      intro vs U3 hb hR hZ
      obtain ⟨go, qo, e11, hgB, hh⟩ := hZ
      have e13 : vs 13 = .int .i64 0 := R4.at (.val (.int .i64 0)) rfl (hR 13 (by decide))
      simp only [putsFrom, Act.put, List.setIfInBounds_toArray, List.set_cons_succ, List.set_cons_zero, e11, e13]
      generalize vs 0 = z0_go
      generalize vs 1 = z1_go
      generalize vs 2 = z2_go
      generalize vs 3 = z3_go
      generalize vs 4 = z4_go
      generalize vs 5 = z5_go
      generalize vs 6 = z6_go
      generalize vs 7 = z7_go
      generalize vs 8 = z8_go
      generalize vs 9 = z9_go
      generalize vs 10 = z10_go
      have S := Lib.hid (S.out.on hb)
      have HP := Lib.hid (HP.out.on hb)
      have HO : Hid (Ho U3 go X3 qo) := Lib.hid hh
      have HF := Lib.hid (HF.out.on hb)
      have HD := Lib.hid (HD.out.on hb)
      clear hb hR hh hgB e11 e13
      clear HC1 HC2 HC3
      have hs0 := rlsame_calls X2.df x.df qd.q p.q U3 HD.out.li.df S.out.al.df (asm_of HEN.out.may).df HSX.out.df
      rw [HEN.out.df, sameB_self] at hs0
      have hs1 : Calls Try.prog 16 #[X2.df.v qd.q, x.df.v p.q] U3 fun e w' => e = .returned (.bool true) ∧ Below U3.heap.size U3 w' := by rw [HEN.out.df]; exact hs0
      have HSD := Lib.hid hs1
      clear hs0 hs1
      have f10 := HF.out.bt.c10
      have d10 := HD.out.bt.c10
      have x10 := S.out.bt.c10
      rw [HF1.out] at f10
      rw [HEN.out.hd] at d10
      cases hh : x.hd
      case true =>
        rw [hh] at d10 x10
        go_wp2_with (first
          | (refine wpList_load_part rfl 28 (.tmp 113) rfl gd 11 rfl (Ac.c X2.df qd.q).toList _ HD.out.bt.df Try.underlying28 rfl acl_size (Ac.v X2.df qd.q) rfl ?_)
          | (refine wpList_load_part rfl 28 (.tmp 115) rfl w.heap.size 11 rfl (Ac.c x.df p.q).toList _ S.out.bt.df Try.underlying28 rfl acl_size (Ac.v x.df p.q) rfl ?_))
        refine HSD.out.mono ?_
        rintro e w5 ⟨rfl, hb⟩
        have S := Lib.hid (S.out.on hb)
        have HP := Lib.hid (HP.out.on hb)
        have HF := Lib.hid (HF.out.on hb)
        have HD := Lib.hid (HD.out.on hb)
        have HO := Lib.hid (HO.out.on hb)
        clear hb HSD f10 d10 x10
        have x10 := S.out.bt.c10
        rw [hh] at x10
        have hO := HO.out
        rw [HUM.out hh] at hO
        have HO := Lib.hid hO
        clear hO
        go_wp2_with (first
          | (refine wpList_load_part rfl 31 (.tmp 16) rfl gd 0 rfl (At.c X2 qd).toList _ (HD.out.bt).bt0 Try.underlying31 rfl attr_size (At.v X2 qd) rfl ?_)
          | (refine wpList_load_part rfl 31 (.tmp 18) rfl go 0 rfl (At.c X2 qo).toList _ (HO.out.bt).bt0 Try.underlying31 rfl attr_size (At.v X2 qo) rfl ?_))
        refine (rasame_self X2 qd qo w5 HD.out.li HO.out.li (asm_of HEN.out.may)).mono ?_
        rintro e w6 ⟨rfl, hb⟩
        have S := Lib.hid (S.out.on hb)
        have HP := Lib.hid (HP.out.on hb)
        have HF := Lib.hid (HF.out.on hb)
        have HD := Lib.hid (HD.out.on hb)
        clear hb x10
        have x10 := S.out.bt.c10
        rw [hh] at x10
        have x0 := S.out.bt.c0
        have x2 := S.out.bt.c2
        have d0 := HD.out.bt.c0
        have d2 := HD.out.bt.c2
        have f2 := HF.out.bt.c2
        have a1 : bits .and .u8 (X2.bi : Int) 2 = ((x.bi &&& 2 : Nat) : Int) := by
          rw [show bits .and .u8 (X2.bi : Int) 2 = ((X2.bi &&& 2 : Nat) : Int) from and8 X2.bi 2 (by have := may8 HEN.out.may; omega) (by decide), HEN.out.bi]
        have a2 : bits .and .u8 (x.bi : Int) 2 = ((x.bi &&& 2 : Nat) : Int) := and8 x.bi 2 (by have := may8 HMX.out; omega) (by decide)
        obtain ⟨C, hC⟩ : ∃ C, C = At.c X2 qd := ⟨_, rfl⟩
        have hone : C.all (·.oneCell') = true := by rw [hC]; exact c_one _ _
        have hsz : (Try.prog.info? 31).map (·.size) = some C.size := by rw [hC]; exact c_size _ _
        have hold : (At.c y q).size = C.size := by rw [hC]; rfl
        obtain ⟨Z, hZ⟩ : ∃ Z, Z = World.setRow w6 g0 C := ⟨_, rfl⟩
        have HBT : Hid ((World.heap w6)[gd]? = some (.cells C 31 (0, 0))) := Lib.hid (by rw [hC]; exact HD.out.bt)
        have SN := Lib.hid (S.out.turn HG0.out C)
        have HPN : Hid (Ho (World.setRow w6 g0 C) g0 X2 qd) := Lib.hid (by rw [hC]; exact HP.out.put HD.out.ow)
        rw [← hZ] at SN HPN
        have HZZ := Lib.hid hZ
        clear hC hZ
        obtain ⟨b2, hb2⟩ : ∃ z, x.bi &&& 2 = z := ⟨_, rfl⟩
        rw [hb2] at a1 a2
        have HGI2 : Hid (b2 ≠ 0 → X1.gi = x.gi ∧ X2.gi = x.gi) := Lib.hid (fun h0 => HGI.out (by rw [hb2]; exact h0))
        clear hb2 HGI HF HO HD HUM HF1 HE S
        have db : ((b2 : Int) != (b2 : Int)) = false := by rw [bne_eq_false_iff_eq]
        by_cases hz : b2 = 0
        case pos =>
          subst hz
          have c1 : bits .and .u8 (X2.bi : Int) 2 = 0 := a1
          have c2 : bits .and .u8 (x.bi : Int) 2 = 0 := a2
          clear a1 a2 db d2 f2 x2 HGI2
          go_upto_region 21 with (fail)
          clear c1 c2 x0 d0 x10
          go_wp2_with (first
            | (refine wpList_load_row rfl 31 (.tmp 16) rfl gd rfl 31 C (0, 0) _ HBT.out Try.underlying31 rfl hsz ?_)
            | (refine wpList_store_rowTo rfl 31 (.tmp 11) (.tmp 155) rfl rfl g0 C rfl rfl 31 _ HP.out.bt hsz hold hone ?_; rw [← HZZ.out]))
          go_roundw
          case rel => exact ⟨k + 1, X2, qd, by go_num, by have := HKN.out; omega, HEN, SN, HPN⟩
          case measure => have := HKN.out; simp [intOf]; omega
        case neg =>
          obtain ⟨g1, g2⟩ := HGI2.out hz
          rw [g1] at f2
          rw [g2] at d2
          have dz : ((b2 : Int) != 0) = true := by rw [bne_iff_ne]; omega
          have dg : ((x.gi : Int) != (x.gi : Int)) = false := by rw [bne_eq_false_iff_eq]
          clear hz HGI2 g1 g2
          go_upto_region 21 with (fail)
          clear a1 a2 db dz dg x0 x2 d0 d2 f2 x10
          go_wp2_with (first
            | (refine wpList_load_row rfl 31 (.tmp 16) rfl gd rfl 31 C (0, 0) _ HBT.out Try.underlying31 rfl hsz ?_)
            | (refine wpList_store_rowTo rfl 31 (.tmp 11) (.tmp 155) rfl rfl g0 C rfl rfl 31 _ HP.out.bt hsz hold hone ?_; rw [← HZZ.out]))
          go_roundw
          case rel => exact ⟨k + 1, X2, qd, by go_num, by have := HKN.out; omega, HEN, SN, HPN⟩
          case measure => have := HKN.out; simp [intOf]; omega
      case false =>
        rw [hh] at d10 x10
        go_wp2_with (first
          | (refine wpList_load_part rfl 28 (.tmp 113) rfl gd 11 rfl (Ac.c X2.df qd.q).toList _ HD.out.bt.df Try.underlying28 rfl acl_size (Ac.v X2.df qd.q) rfl ?_)
          | (refine wpList_load_part rfl 28 (.tmp 115) rfl w.heap.size 11 rfl (Ac.c x.df p.q).toList _ S.out.bt.df Try.underlying28 rfl acl_size (Ac.v x.df p.q) rfl ?_))
        refine HSD.out.mono ?_
        rintro e w5 ⟨rfl, hb⟩
        have S := Lib.hid (S.out.on hb)
        have HP := Lib.hid (HP.out.on hb)
        have HF := Lib.hid (HF.out.on hb)
        have HD := Lib.hid (HD.out.on hb)
        have HO := Lib.hid (HO.out.on hb)
        clear hb HSD f10 d10 x10
        have x10 := S.out.bt.c10
        rw [hh] at x10
        have x10 := S.out.bt.c10
        rw [hh] at x10
        have x0 := S.out.bt.c0
        have x2 := S.out.bt.c2
        have d0 := HD.out.bt.c0
        have d2 := HD.out.bt.c2
        have f2 := HF.out.bt.c2
        have a1 : bits .and .u8 (X2.bi : Int) 2 = ((x.bi &&& 2 : Nat) : Int) := by
          rw [show bits .and .u8 (X2.bi : Int) 2 = ((X2.bi &&& 2 : Nat) : Int) from and8 X2.bi 2 (by have := may8 HEN.out.may; omega) (by decide), HEN.out.bi]
        have a2 : bits .and .u8 (x.bi : Int) 2 = ((x.bi &&& 2 : Nat) : Int) := and8 x.bi 2 (by have := may8 HMX.out; omega) (by decide)
        obtain ⟨C, hC⟩ : ∃ C, C = At.c X2 qd := ⟨_, rfl⟩
        have hone : C.all (·.oneCell') = true := by rw [hC]; exact c_one _ _
        have hsz : (Try.prog.info? 31).map (·.size) = some C.size := by rw [hC]; exact c_size _ _
        have hold : (At.c y q).size = C.size := by rw [hC]; rfl
        obtain ⟨Z, hZ⟩ : ∃ Z, Z = World.setRow w5 g0 C := ⟨_, rfl⟩
        have HBT : Hid ((World.heap w5)[gd]? = some (.cells C 31 (0, 0))) := Lib.hid (by rw [hC]; exact HD.out.bt)
        have SN := Lib.hid (S.out.turn HG0.out C)
        have HPN : Hid (Ho (World.setRow w5 g0 C) g0 X2 qd) := Lib.hid (by rw [hC]; exact HP.out.put HD.out.ow)
        rw [← hZ] at SN HPN
        have HZZ := Lib.hid hZ
        clear hC hZ
        obtain ⟨b2, hb2⟩ : ∃ z, x.bi &&& 2 = z := ⟨_, rfl⟩
        rw [hb2] at a1 a2
        have HGI2 : Hid (b2 ≠ 0 → X1.gi = x.gi ∧ X2.gi = x.gi) := Lib.hid (fun h0 => HGI.out (by rw [hb2]; exact h0))
        clear hb2 HGI HF HO HD HUM HF1 HE S
        have db : ((b2 : Int) != (b2 : Int)) = false := by rw [bne_eq_false_iff_eq]
        by_cases hz : b2 = 0
        case pos =>
          subst hz
          have c1 : bits .and .u8 (X2.bi : Int) 2 = 0 := a1
          have c2 : bits .and .u8 (x.bi : Int) 2 = 0 := a2
          clear a1 a2 db d2 f2 x2 HGI2
          go_upto_region 21 with (fail)
          clear c1 c2 x0 d0 x10
          go_wp2_with (first
            | (refine wpList_load_row rfl 31 (.tmp 16) rfl gd rfl 31 C (0, 0) _ HBT.out Try.underlying31 rfl hsz ?_)
            | (refine wpList_store_rowTo rfl 31 (.tmp 11) (.tmp 155) rfl rfl g0 C rfl rfl 31 _ HP.out.bt hsz hold hone ?_; rw [← HZZ.out]))
          go_roundw
          case rel => exact ⟨k + 1, X2, qd, by go_num, by have := HKN.out; omega, HEN, SN, HPN⟩
          case measure => have := HKN.out; simp [intOf]; omega
        case neg =>
          obtain ⟨g1, g2⟩ := HGI2.out hz
          rw [g1] at f2
          rw [g2] at d2
          have dz : ((b2 : Int) != 0) = true := by rw [bne_iff_ne]; omega
          have dg : ((x.gi : Int) != (x.gi : Int)) = false := by rw [bne_eq_false_iff_eq]
          clear hz HGI2 g1 g2
          go_upto_region 21 with (fail)
          clear a1 a2 db dz dg x0 x2 d0 d2 f2 x10
          go_wp2_with (first
            | (refine wpList_load_row rfl 31 (.tmp 16) rfl gd rfl 31 C (0, 0) _ HBT.out Try.underlying31 rfl hsz ?_)
            | (refine wpList_store_rowTo rfl 31 (.tmp 11) (.tmp 155) rfl rfl g0 C rfl rfl 31 _ HP.out.bt hsz hold hone ?_; rw [← HZZ.out]))
          go_roundw
          case rel => exact ⟨k + 1, X2, qd, by go_num, by have := HKN.out; omega, HEN, SN, HPN⟩
          case measure => have := HKN.out; simp [intOf]; omega
    case neg =>
      go_upto_region 12 with (fail)
      clear c2 e4
      obtain ⟨X1, hX1⟩ : ∃ X, newX c u y 1 (0) = X := ⟨_, rfl⟩
      obtain ⟨X2, hX2⟩ : ∃ X, newX c u y 2 (0) = X := ⟨_, rfl⟩
      obtain ⟨X3, hX3⟩ : ∃ X, newX c v y 2 (0) = X := ⟨_, rfl⟩
      have hsy := asm_of HE.out.may
      have HC1 : Hid (∀ (W : World), CLies W c Ag → ALies W y q → Calls Try.prog 11 #[c.v Ag nc, .int .u16 (u : Nat), y.v q, .int .u8 1, .int .u16 (0)] W fun e w' => ∃ q, e = .returned (.tuple #[At.v X1 q, .int .i64 0]) ∧ AOw w' X1 q ∧ Below W.heap.size W w') := Lib.hid (fun W h1 h2 => by
        have h := new_calls c Ag nc u y q 1 (0) W h1 h2 hsy hu (by decide)
        have hb := heir_beg HGS.out HE.out.may 1 (by decide) (by decide)
        rw [new_yes hb, newN_yes hb, hX1] at h
        exact h)
      have HC2 : Hid (∀ (W : World), CLies W c Ag → ALies W y q → Calls Try.prog 11 #[c.v Ag nc, .int .u16 (u : Nat), y.v q, .int .u8 2, .int .u16 (0)] W fun e w' => ∃ q, e = .returned (.tuple #[At.v X2 q, .int .i64 0]) ∧ AOw w' X2 q ∧ Below W.heap.size W w') := Lib.hid (fun W h1 h2 => by
        have h := new_calls c Ag nc u y q 2 (0) W h1 h2 hsy hu (by decide)
        have hb := heir_beg HGS.out HE.out.may 2 (by decide) (by decide)
        rw [new_yes hb, newN_yes hb, hX2] at h
        exact h)
      have HC3 : Hid (∀ (W : World), CLies W c Ag → ALies W y q → Calls Try.prog 11 #[c.v Ag nc, .int .u16 (v : Nat), y.v q, .int .u8 2, .int .u16 (0)] W fun e w' => ∃ q, e = .returned (.tuple #[At.v X3 q, .int .i64 0]) ∧ AOw w' X3 q ∧ Below W.heap.size W w') := Lib.hid (fun W h1 h2 => by
        have h := new_calls c Ag nc v y q 2 (0) W h1 h2 hsy hv (by decide)
        have hb := heir_beg HGS.out HE.out.may 2 (by decide) (by decide)
        rw [new_yes hb, newN_yes hb, hX3] at h
        exact h)
      have HF1 : Hid (X1.hd = false) := Lib.hid (by rw [← hX1]; rfl)
      have HGI : Hid (x.bi &&& 2 ≠ 0 → X1.gi = x.gi ∧ X2.gi = x.gi) := Lib.hid (fun h0 => ⟨by rw [← hX1]; exact HE.out.gid c h0, by rw [← hX2]; exact HE.out.gid c h0⟩)
      have HEN : Hid (Heir x X2) := Lib.hid (by rw [← hX2]; exact HE.out.next c u (0))
      have HUM : Hid (x.hd = true → X3 = X2) := Lib.hid (fun h0 => by rw [← hX3, ← hX2]; exact heir_umask (HE.out.hd.trans h0) c u v (0))
      clear hX1 hX2 hX3 hsy
      refine wp_region_put (R4 [.val (.slice (some ⟨b, o, none⟩) nL cL), .val (.int .i64 (k : Nat)), .val (.pointer (some ⟨b, o + k * 4, none⟩)), .val (c.v Ag nc), .val (.int .u16 (u : Nat)), .val (At.v y q), .val (.int .u16 (0)), tupS X1 0, tupS X1 0, attS X1, .val (.int .i64 0), ptrS wr.heap.size, .any, .val (.int .i64 0)]) (PutZ wr.heap.size X1) 12 11 9 14 67 31 rfl rfl rfl rfl rfl rfl rfl rfl (by kernel_rfl) (by kernel_rfl) (by kernel_rfl) (by kernel_rfl) (by kernel_rfl) (fun _ _ _ _ h k => Sp4.stable h k) PutZ.on (fun _ _ => trivial) ?steps (put_store ?turns rfl rfl) ?last
      case turns =>
        intro s hs
        simp only [List.mem_cons, List.not_mem_nil, or_false] at hs
        rcases hs with rfl | rfl | rfl | rfl | rfl | rfl | rfl | rfl | rfl | rfl | rfl | rfl | rfl | rfl
        all_goals first | exact turns_val _ | exact turns_tup _ _ | exact turns_att _ | exact turns_ptr _ | exact turns_any
      case steps =>
        refine ⟨fun _ => ?s0, fun _ => ?s1, fun _ => ?s2, fun _ => ?s3, fun _ => ?s4, fun _ => ?s5, fun _ => ?s6, fun _ => ?s7, fun _ => ?s8, fun _ => ?s9, fun _ => ?s10, fun _ => ?s11, fun h => absurd rfl h, fun _ => ?s13, trivial⟩
        case s0 =>
          exact st4_val _ rfl (.inl rfl) fun a u' hb hA hd => by
            have q0 := ev_of (show a.eval (.tmp 0) = .slice (some ⟨b, o, none⟩) nL cL from hA.eval 0 rfl)
            unfold execOp
            simp [go_sem, q0]
        case s1 =>
          exact st4_val _ rfl (.inl rfl) fun a u' hb hA hd => by
            have q0 := ev_of (show a.eval (.tmp 12) = .int .i64 (k : Nat) from hA.eval 12 rfl)
            unfold execOp
            simp [go_sem, q0]
        case s2 =>
          exact st4_val _ rfl (.inl rfl) fun a u' hb hA hd => run_iaddrC rfl b o nL cL k (hd 0 59 rfl rfl _ rfl) (hd 1 60 rfl rfl _ rfl) HKN.out
        case s3 =>
          exact st4_val _ rfl (.inl rfl) fun a u' hb hA hd => one_cells 25 rfl b (o + k * 4) (hd 2 61 rfl rfl _ rfl) (c.c Ag nc).toList _ (HCE.out u' (S.out.on hb)) Try.underlying25 rfl cred_size
        case s4 =>
          exact st4_val _ rfl (.inl rfl) fun a u' hb hA hd => by
            have q0 := ev_of (show a.eval (.tmp 1) = .int .u16 (u : Nat) from hA.eval 1 rfl)
            unfold execOp
            simp [go_sem, q0]
        case s5 =>
          exact st4_val _ rfl (.inl rfl) fun a u' hb hA hd => run_loadT rfl g0 y q (hA.eval 11 rfl) (HP.out.bt.on hb)
        case s6 =>
          exact st4_val _ rfl (.inl rfl) fun a u' hb hA hd => by
            have q0 := ev_of (show a.eval (.tmp 13) = .int .u16 (0) from hA.eval 13 rfl)
            unfold execOp
            simp [go_sem, q0]
        case s7 =>
          refine st4_call _ rfl (.inl rfl) 11 fun a u' hb hA hd => ?_
          have q0 := ev_of (show a.eval (.tmp 62) = c.v Ag nc from hd 3 62 rfl rfl _ rfl)
          have q1 := ev_of (show a.eval (.tmp 63) = .int .u16 (u : Nat) from hd 4 63 rfl rfl _ rfl)
          have q2 := ev_of (show a.eval (.tmp 64) = At.v y q from hd 5 64 rfl rfl _ rfl)
          have q3 := ev_of (show a.eval (.tmp 65) = .int .u16 (0) from hd 6 65 rfl rfl _ rfl)
          refine ⟨#[c.v Ag nc, .int .u16 (u : Nat), At.v y q, .int .u8 1, .int .u16 (0)], ?_, (HC1.out u' (HCLI.out u' (S.out.on hb)) (HP.out.on hb).li).mono ?_⟩
          · unfold execOp
            simp [go_sem, q0, q1, q2, q3]
          · rintro e w' ⟨q', rfl, how, hb'⟩
            exact ⟨_, rfl, ⟨q', rfl, how⟩, hb'⟩
        case s8 =>
          exact st4_move 7 66 rfl (.inl rfl) rfl rfl rfl
        case s9 =>
          refine st4_gen _ rfl (.inl rfl) fun a u' hb hA hd => ?_
          obtain ⟨q', e, how⟩ := (show ∃ q', a.eval (.tmp 58) = .tuple #[At.v X1 q', .int .i64 0] ∧ AOw u' X1 q' from hd 8 58 rfl rfl _ rfl)
          have e' := ev_of e
          refine ⟨At.v X1 q', u', ?_, ⟨q', rfl, how⟩, On.refl _⟩
          unfold execOp
          simp [go_sem, e']
        case s10 =>
          refine st4_gen _ rfl (.inl rfl) fun a u' hb hA hd => ?_
          obtain ⟨q', e, how⟩ := (show ∃ q', a.eval (.tmp 58) = .tuple #[At.v X1 q', .int .i64 0] ∧ AOw u' X1 q' from hd 8 58 rfl rfl _ rfl)
          have e' := ev_of e
          refine ⟨.int .i64 0, u', ?_, rfl, On.refl _⟩
          unfold execOp
          simp [go_sem, e']
        case s11 =>
          refine st4_gen _ rfl (.inl rfl) fun a u' hb hA hd => ?_
          exact ⟨_, _, run_allocT rfl, ⟨u'.heap.size, zAt, rfl, hb.size, heap_alloc_new u' _, rfl⟩, on_alloc u' _⟩
        case s13 =>
          exact st4_assign 10 68 rfl (.inl rfl) rfl rfl rfl
      case last =>
      intro vs U1 hb hR hZ
      obtain ⟨gf, qf, e11, hgB, hh⟩ := hZ
      have e13 : vs 13 = .int .i64 0 := R4.at (.val (.int .i64 0)) rfl (hR 13 (by decide))
      simp only [putsFrom, Act.put, List.setIfInBounds_toArray, List.set_cons_succ, List.set_cons_zero, e11, e13]
      generalize vs 0 = z0_gf
      generalize vs 1 = z1_gf
      generalize vs 2 = z2_gf
      generalize vs 3 = z3_gf
      generalize vs 4 = z4_gf
      generalize vs 5 = z5_gf
      generalize vs 6 = z6_gf
      generalize vs 7 = z7_gf
      generalize vs 8 = z8_gf
      generalize vs 9 = z9_gf
      generalize vs 10 = z10_gf
      have S := Lib.hid (S.out.on hb)
      have HP := Lib.hid (HP.out.on hb)
      have HF : Hid (Ho U1 gf X1 qf) := Lib.hid hh
      
      clear hb hR hh hgB e11 e13
      go_upto_region 13 with (fail)
      refine wp_region_put (R4 [.val (.slice (some ⟨b, o, none⟩) nL cL), .val (.int .i64 (k : Nat)), .val (.pointer (some ⟨b, o + k * 4, none⟩)), .val (c.v Ag nc), .val (.int .u16 (u : Nat)), .val (At.v y q), .val (.int .u16 (0)), tupS X2 0, tupS X2 0, attS X2, .val (.int .i64 0), ptrS U1.heap.size, .any, .val (.int .i64 0)]) (PutZ U1.heap.size X2) 12 11 9 16 78 31 rfl rfl rfl rfl rfl rfl rfl rfl (by kernel_rfl) (by kernel_rfl) (by kernel_rfl) (by kernel_rfl) (by kernel_rfl) (fun _ _ _ _ h k => Sp4.stable h k) PutZ.on (fun _ _ => trivial) ?steps (put_store ?turns rfl rfl) ?last
      case turns =>
        intro s hs
        simp only [List.mem_cons, List.not_mem_nil, or_false] at hs
        rcases hs with rfl | rfl | rfl | rfl | rfl | rfl | rfl | rfl | rfl | rfl | rfl | rfl | rfl | rfl
        all_goals first | exact turns_val _ | exact turns_tup _ _ | exact turns_att _ | exact turns_ptr _ | exact turns_any
      case steps =>
        refine ⟨fun _ => ?s0, fun _ => ?s1, fun _ => ?s2, fun _ => ?s3, fun _ => ?s4, fun _ => ?s5, fun _ => ?s6, fun _ => ?s7, fun _ => ?s8, fun _ => ?s9, fun _ => ?s10, fun _ => ?s11, fun h => absurd rfl h, fun _ => ?s13, trivial⟩
        case s0 =>
          exact st4_val _ rfl (.inl rfl) fun a u' hb hA hd => by
            have q0 := ev_of (show a.eval (.tmp 0) = .slice (some ⟨b, o, none⟩) nL cL from hA.eval 0 rfl)
            unfold execOp
            simp [go_sem, q0]
        case s1 =>
          exact st4_val _ rfl (.inl rfl) fun a u' hb hA hd => by
            have q0 := ev_of (show a.eval (.tmp 12) = .int .i64 (k : Nat) from hA.eval 12 rfl)
            unfold execOp
            simp [go_sem, q0]
        case s2 =>
          exact st4_val _ rfl (.inl rfl) fun a u' hb hA hd => run_iaddrC rfl b o nL cL k (hd 0 70 rfl rfl _ rfl) (hd 1 71 rfl rfl _ rfl) HKN.out
        case s3 =>
          exact st4_val _ rfl (.inl rfl) fun a u' hb hA hd => one_cells 25 rfl b (o + k * 4) (hd 2 72 rfl rfl _ rfl) (c.c Ag nc).toList _ (HCE.out u' (S.out.on hb)) Try.underlying25 rfl cred_size
        case s4 =>
          exact st4_val _ rfl (.inl rfl) fun a u' hb hA hd => by
            have q0 := ev_of (show a.eval (.tmp 1) = .int .u16 (u : Nat) from hA.eval 1 rfl)
            unfold execOp
            simp [go_sem, q0]
        case s5 =>
          exact st4_val _ rfl (.inl rfl) fun a u' hb hA hd => run_loadT rfl g0 y q (hA.eval 11 rfl) (HP.out.bt.on hb)
        case s6 =>
          exact st4_val _ rfl (.inl rfl) fun a u' hb hA hd => by
            have q0 := ev_of (show a.eval (.tmp 13) = .int .u16 (0) from hA.eval 13 rfl)
            unfold execOp
            simp [go_sem, q0]
        case s7 =>
          refine st4_call _ rfl (.inl rfl) 11 fun a u' hb hA hd => ?_
          have q0 := ev_of (show a.eval (.tmp 73) = c.v Ag nc from hd 3 73 rfl rfl _ rfl)
          have q1 := ev_of (show a.eval (.tmp 74) = .int .u16 (u : Nat) from hd 4 74 rfl rfl _ rfl)
          have q2 := ev_of (show a.eval (.tmp 75) = At.v y q from hd 5 75 rfl rfl _ rfl)
          have q3 := ev_of (show a.eval (.tmp 76) = .int .u16 (0) from hd 6 76 rfl rfl _ rfl)
          refine ⟨#[c.v Ag nc, .int .u16 (u : Nat), At.v y q, .int .u8 2, .int .u16 (0)], ?_, (HC2.out u' (HCLI.out u' (S.out.on hb)) (HP.out.on hb).li).mono ?_⟩
          · unfold execOp
            simp [go_sem, q0, q1, q2, q3]
          · rintro e w' ⟨q', rfl, how, hb'⟩
            exact ⟨_, rfl, ⟨q', rfl, how⟩, hb'⟩
        case s8 =>
          exact st4_move 7 77 rfl (.inl rfl) rfl rfl rfl
        case s9 =>
          refine st4_gen _ rfl (.inl rfl) fun a u' hb hA hd => ?_
          obtain ⟨q', e, how⟩ := (show ∃ q', a.eval (.tmp 69) = .tuple #[At.v X2 q', .int .i64 0] ∧ AOw u' X2 q' from hd 8 69 rfl rfl _ rfl)
          have e' := ev_of e
          refine ⟨At.v X2 q', u', ?_, ⟨q', rfl, how⟩, On.refl _⟩
          unfold execOp
          simp [go_sem, e']
        case s10 =>
          refine st4_gen _ rfl (.inl rfl) fun a u' hb hA hd => ?_
          obtain ⟨q', e, how⟩ := (show ∃ q', a.eval (.tmp 69) = .tuple #[At.v X2 q', .int .i64 0] ∧ AOw u' X2 q' from hd 8 69 rfl rfl _ rfl)
          have e' := ev_of e
          refine ⟨.int .i64 0, u', ?_, rfl, On.refl _⟩
          unfold execOp
          simp [go_sem, e']
        case s11 =>
          refine st4_gen _ rfl (.inl rfl) fun a u' hb hA hd => ?_
          exact ⟨_, _, run_allocT rfl, ⟨u'.heap.size, zAt, rfl, hb.size, heap_alloc_new u' _, rfl⟩, on_alloc u' _⟩
        case s13 =>
          exact st4_assign 10 79 rfl (.inl rfl) rfl rfl rfl
      case last =>
      intro vs U2 hb hR hZ
      obtain ⟨gd, qd, e11, hgB, hh⟩ := hZ
      have e13 : vs 13 = .int .i64 0 := R4.at (.val (.int .i64 0)) rfl (hR 13 (by decide))
      simp only [putsFrom, Act.put, List.setIfInBounds_toArray, List.set_cons_succ, List.set_cons_zero, e11, e13]
      generalize vs 0 = z0_gd
      generalize vs 1 = z1_gd
      generalize vs 2 = z2_gd
      generalize vs 3 = z3_gd
      generalize vs 4 = z4_gd
      generalize vs 5 = z5_gd
      generalize vs 6 = z6_gd
      generalize vs 7 = z7_gd
      generalize vs 8 = z8_gd
      generalize vs 9 = z9_gd
      generalize vs 10 = z10_gd
      have S := Lib.hid (S.out.on hb)
      have HP0 := Lib.hid HP.out.bt.lt
      have HP := Lib.hid (HP.out.on hb)
      have HD : Hid (Ho U2 gd X2 qd) := Lib.hid hh
      have HF := Lib.hid (HF.out.on hb)
      have HGD : Hid (w.heap.size < gd ∧ gd ≠ g0) := Lib.hid (by have := HG0.out; have := HP0.out; omega)
      clear hb hR hh hgB e11 e13
      go_upto_region 14 with (fail)
      refine wp_region_put (R4 [.val (.slice (some ⟨b, o, none⟩) nL cL), .val (.int .i64 (k : Nat)), .val (.pointer (some ⟨b, o + k * 4, none⟩)), .val (c.v Ag nc), .val (.int .u16 (v : Nat)), .val (At.v y q), .val (.int .u16 (0)), tupS X3 0, tupS X3 0, attS X3, .val (.int .i64 0), ptrS U2.heap.size, .any, .val (.int .i64 0)]) (PutZ U2.heap.size X3) 12 11 9 18 89 31 rfl rfl rfl rfl rfl rfl rfl rfl (by kernel_rfl) (by kernel_rfl) (by kernel_rfl) (by kernel_rfl) (by kernel_rfl) (fun _ _ _ _ h k => Sp4.stable h k) PutZ.on (fun _ _ => trivial) ?steps (put_store ?turns rfl rfl) ?last
      case turns =>
        intro s hs
        simp only [List.mem_cons, List.not_mem_nil, or_false] at hs
        rcases hs with rfl | rfl | rfl | rfl | rfl | rfl | rfl | rfl | rfl | rfl | rfl | rfl | rfl | rfl
        all_goals first | exact turns_val _ | exact turns_tup _ _ | exact turns_att _ | exact turns_ptr _ | exact turns_any
      case steps =>
        refine ⟨fun _ => ?s0, fun _ => ?s1, fun _ => ?s2, fun _ => ?s3, fun _ => ?s4, fun _ => ?s5, fun _ => ?s6, fun _ => ?s7, fun _ => ?s8, fun _ => ?s9, fun _ => ?s10, fun _ => ?s11, fun h => absurd rfl h, fun _ => ?s13, trivial⟩
        case s0 =>
          exact st4_val _ rfl (.inl rfl) fun a u' hb hA hd => by
            have q0 := ev_of (show a.eval (.tmp 0) = .slice (some ⟨b, o, none⟩) nL cL from hA.eval 0 rfl)
            unfold execOp
            simp [go_sem, q0]
        case s1 =>
          exact st4_val _ rfl (.inl rfl) fun a u' hb hA hd => by
            have q0 := ev_of (show a.eval (.tmp 12) = .int .i64 (k : Nat) from hA.eval 12 rfl)
            unfold execOp
            simp [go_sem, q0]
        case s2 =>
          exact st4_val _ rfl (.inl rfl) fun a u' hb hA hd => run_iaddrC rfl b o nL cL k (hd 0 81 rfl rfl _ rfl) (hd 1 82 rfl rfl _ rfl) HKN.out
        case s3 =>
          exact st4_val _ rfl (.inl rfl) fun a u' hb hA hd => one_cells 25 rfl b (o + k * 4) (hd 2 83 rfl rfl _ rfl) (c.c Ag nc).toList _ (HCE.out u' (S.out.on hb)) Try.underlying25 rfl cred_size
        case s4 =>
          exact st4_val _ rfl (.inl rfl) fun a u' hb hA hd => by
            have q0 := ev_of (show a.eval (.tmp 2) = .int .u16 (v : Nat) from hA.eval 2 rfl)
            unfold execOp
            simp [go_sem, q0]
        case s5 =>
          exact st4_val _ rfl (.inl rfl) fun a u' hb hA hd => run_loadT rfl g0 y q (hA.eval 11 rfl) (HP.out.bt.on hb)
        case s6 =>
          exact st4_val _ rfl (.inl rfl) fun a u' hb hA hd => by
            have q0 := ev_of (show a.eval (.tmp 13) = .int .u16 (0) from hA.eval 13 rfl)
            unfold execOp
            simp [go_sem, q0]
        case s7 =>
          refine st4_call _ rfl (.inl rfl) 11 fun a u' hb hA hd => ?_
          have q0 := ev_of (show a.eval (.tmp 84) = c.v Ag nc from hd 3 84 rfl rfl _ rfl)
          have q1 := ev_of (show a.eval (.tmp 85) = .int .u16 (v : Nat) from hd 4 85 rfl rfl _ rfl)
          have q2 := ev_of (show a.eval (.tmp 86) = At.v y q from hd 5 86 rfl rfl _ rfl)
          have q3 := ev_of (show a.eval (.tmp 87) = .int .u16 (0) from hd 6 87 rfl rfl _ rfl)
          refine ⟨#[c.v Ag nc, .int .u16 (v : Nat), At.v y q, .int .u8 2, .int .u16 (0)], ?_, (HC3.out u' (HCLI.out u' (S.out.on hb)) (HP.out.on hb).li).mono ?_⟩
          · unfold execOp
            simp [go_sem, q0, q1, q2, q3]
          · rintro e w' ⟨q', rfl, how, hb'⟩
            exact ⟨_, rfl, ⟨q', rfl, how⟩, hb'⟩
        case s8 =>
          exact st4_move 7 88 rfl (.inl rfl) rfl rfl rfl
        case s9 =>
          refine st4_gen _ rfl (.inl rfl) fun a u' hb hA hd => ?_
          obtain ⟨q', e, how⟩ := (show ∃ q', a.eval (.tmp 80) = .tuple #[At.v X3 q', .int .i64 0] ∧ AOw u' X3 q' from hd 8 80 rfl rfl _ rfl)
          have e' := ev_of e
          refine ⟨At.v X3 q', u', ?_, ⟨q', rfl, how⟩, On.refl _⟩
          unfold execOp
          simp [go_sem, e']
        case s10 =>
          refine st4_gen _ rfl (.inl rfl) fun a u' hb hA hd => ?_
          obtain ⟨q', e, how⟩ := (show ∃ q', a.eval (.tmp 80) = .tuple #[At.v X3 q', .int .i64 0] ∧ AOw u' X3 q' from hd 8 80 rfl rfl _ rfl)
          have e' := ev_of e
          refine ⟨.int .i64 0, u', ?_, rfl, On.refl _⟩
          unfold execOp
          simp [go_sem, e']
        case s11 =>
          refine st4_gen _ rfl (.inl rfl) fun a u' hb hA hd => ?_
          exact ⟨_, _, run_allocT rfl, ⟨u'.heap.size, zAt, rfl, hb.size, heap_alloc_new u' _, rfl⟩, on_alloc u' _⟩
        case s13 =>
          exact st4_assign 10 90 rfl (.inl rfl) rfl rfl rfl
      case last =>
      intro vs U3 hb hR hZ
      obtain ⟨go, qo, e11, hgB, hh⟩ := hZ
      have e13 : vs 13 = .int .i64 0 := R4.at (.val (.int .i64 0)) rfl (hR 13 (by decide))
      simp only [putsFrom, Act.put, List.setIfInBounds_toArray, List.set_cons_succ, List.set_cons_zero, e11, e13]
      generalize vs 0 = z0_go
      generalize vs 1 = z1_go
      generalize vs 2 = z2_go
      generalize vs 3 = z3_go
      generalize vs 4 = z4_go
      generalize vs 5 = z5_go
      generalize vs 6 = z6_go
      generalize vs 7 = z7_go
      generalize vs 8 = z8_go
      generalize vs 9 = z9_go
      generalize vs 10 = z10_go
      have S := Lib.hid (S.out.on hb)
      have HP := Lib.hid (HP.out.on hb)
      have HO : Hid (Ho U3 go X3 qo) := Lib.hid hh
      have HF := Lib.hid (HF.out.on hb)
      have HD := Lib.hid (HD.out.on hb)
      clear hb hR hh hgB e11 e13
      clear HC1 HC2 HC3
      have hs0 := rlsame_calls X2.df x.df qd.q p.q U3 HD.out.li.df S.out.al.df (asm_of HEN.out.may).df HSX.out.df
      rw [HEN.out.df, sameB_self] at hs0
      have hs1 : Calls Try.prog 16 #[X2.df.v qd.q, x.df.v p.q] U3 fun e w' => e = .returned (.bool true) ∧ Below U3.heap.size U3 w' := by rw [HEN.out.df]; exact hs0
      have HSD := Lib.hid hs1
      clear hs0 hs1
      have f10 := HF.out.bt.c10
      have d10 := HD.out.bt.c10
      have x10 := S.out.bt.c10
      rw [HF1.out] at f10
      rw [HEN.out.hd] at d10
      cases hh : x.hd
      case true =>
        rw [hh] at d10 x10
        go_wp2_with (first
          | (refine wpList_load_part rfl 28 (.tmp 113) rfl gd 11 rfl (Ac.c X2.df qd.q).toList _ HD.out.bt.df Try.underlying28 rfl acl_size (Ac.v X2.df qd.q) rfl ?_)
          | (refine wpList_load_part rfl 28 (.tmp 115) rfl w.heap.size 11 rfl (Ac.c x.df p.q).toList _ S.out.bt.df Try.underlying28 rfl acl_size (Ac.v x.df p.q) rfl ?_))
        refine HSD.out.mono ?_
        rintro e w5 ⟨rfl, hb⟩
        have S := Lib.hid (S.out.on hb)
        have HP := Lib.hid (HP.out.on hb)
        have HF := Lib.hid (HF.out.on hb)
        have HD := Lib.hid (HD.out.on hb)
        have HO := Lib.hid (HO.out.on hb)
        clear hb HSD f10 d10 x10
        have x10 := S.out.bt.c10
        rw [hh] at x10
        have hO := HO.out
        rw [HUM.out hh] at hO
        have HO := Lib.hid hO
        clear hO
        go_wp2_with (first
          | (refine wpList_load_part rfl 31 (.tmp 16) rfl gd 0 rfl (At.c X2 qd).toList _ (HD.out.bt).bt0 Try.underlying31 rfl attr_size (At.v X2 qd) rfl ?_)
          | (refine wpList_load_part rfl 31 (.tmp 18) rfl go 0 rfl (At.c X2 qo).toList _ (HO.out.bt).bt0 Try.underlying31 rfl attr_size (At.v X2 qo) rfl ?_))
        refine (rasame_self X2 qd qo w5 HD.out.li HO.out.li (asm_of HEN.out.may)).mono ?_
        rintro e w6 ⟨rfl, hb⟩
        have S := Lib.hid (S.out.on hb)
        have HP := Lib.hid (HP.out.on hb)
        have HF := Lib.hid (HF.out.on hb)
        have HD := Lib.hid (HD.out.on hb)
        clear hb x10
        have x10 := S.out.bt.c10
        rw [hh] at x10
        have x0 := S.out.bt.c0
        have x2 := S.out.bt.c2
        have d0 := HD.out.bt.c0
        have d2 := HD.out.bt.c2
        have f2 := HF.out.bt.c2
        have a1 : bits .and .u8 (X2.bi : Int) 2 = ((x.bi &&& 2 : Nat) : Int) := by
          rw [show bits .and .u8 (X2.bi : Int) 2 = ((X2.bi &&& 2 : Nat) : Int) from and8 X2.bi 2 (by have := may8 HEN.out.may; omega) (by decide), HEN.out.bi]
        have a2 : bits .and .u8 (x.bi : Int) 2 = ((x.bi &&& 2 : Nat) : Int) := and8 x.bi 2 (by have := may8 HMX.out; omega) (by decide)
        obtain ⟨C, hC⟩ : ∃ C, C = At.c X2 qd := ⟨_, rfl⟩
        have hone : C.all (·.oneCell') = true := by rw [hC]; exact c_one _ _
        have hsz : (Try.prog.info? 31).map (·.size) = some C.size := by rw [hC]; exact c_size _ _
        have hold : (At.c y q).size = C.size := by rw [hC]; rfl
        obtain ⟨Z, hZ⟩ : ∃ Z, Z = World.setRow w6 g0 C := ⟨_, rfl⟩
        have HBT : Hid ((World.heap w6)[gd]? = some (.cells C 31 (0, 0))) := Lib.hid (by rw [hC]; exact HD.out.bt)
        have SN := Lib.hid (S.out.turn HG0.out C)
        have HPN : Hid (Ho (World.setRow w6 g0 C) g0 X2 qd) := Lib.hid (by rw [hC]; exact HP.out.put HD.out.ow)
        rw [← hZ] at SN HPN
        have HZZ := Lib.hid hZ
        clear hC hZ
        obtain ⟨b2, hb2⟩ : ∃ z, x.bi &&& 2 = z := ⟨_, rfl⟩
        rw [hb2] at a1 a2
        have HGI2 : Hid (b2 ≠ 0 → X1.gi = x.gi ∧ X2.gi = x.gi) := Lib.hid (fun h0 => HGI.out (by rw [hb2]; exact h0))
        clear hb2 HGI HF HO HD HUM HF1 HE S
        have db : ((b2 : Int) != (b2 : Int)) = false := by rw [bne_eq_false_iff_eq]
        by_cases hz : b2 = 0
        case pos =>
          subst hz
          have c1 : bits .and .u8 (X2.bi : Int) 2 = 0 := a1
          have c2 : bits .and .u8 (x.bi : Int) 2 = 0 := a2
          clear a1 a2 db d2 f2 x2 HGI2
          go_upto_region 21 with (fail)
          clear c1 c2 x0 d0 x10
          go_wp2_with (first
            | (refine wpList_load_row rfl 31 (.tmp 16) rfl gd rfl 31 C (0, 0) _ HBT.out Try.underlying31 rfl hsz ?_)
            | (refine wpList_store_rowTo rfl 31 (.tmp 11) (.tmp 155) rfl rfl g0 C rfl rfl 31 _ HP.out.bt hsz hold hone ?_; rw [← HZZ.out]))
          go_roundw
          case rel => exact ⟨k + 1, X2, qd, by go_num, by have := HKN.out; omega, HEN, SN, HPN⟩
          case measure => have := HKN.out; simp [intOf]; omega
        case neg =>
          obtain ⟨g1, g2⟩ := HGI2.out hz
          rw [g1] at f2
          rw [g2] at d2
          have dz : ((b2 : Int) != 0) = true := by rw [bne_iff_ne]; omega
          have dg : ((x.gi : Int) != (x.gi : Int)) = false := by rw [bne_eq_false_iff_eq]
          clear hz HGI2 g1 g2
          go_upto_region 21 with (fail)
          clear a1 a2 db dz dg x0 x2 d0 d2 f2 x10
          go_wp2_with (first
            | (refine wpList_load_row rfl 31 (.tmp 16) rfl gd rfl 31 C (0, 0) _ HBT.out Try.underlying31 rfl hsz ?_)
            | (refine wpList_store_rowTo rfl 31 (.tmp 11) (.tmp 155) rfl rfl g0 C rfl rfl 31 _ HP.out.bt hsz hold hone ?_; rw [← HZZ.out]))
          go_roundw
          case rel => exact ⟨k + 1, X2, qd, by go_num, by have := HKN.out; omega, HEN, SN, HPN⟩
          case measure => have := HKN.out; simp [intOf]; omega
      case false =>
        rw [hh] at d10 x10
        go_wp2_with (first
          | (refine wpList_load_part rfl 28 (.tmp 113) rfl gd 11 rfl (Ac.c X2.df qd.q).toList _ HD.out.bt.df Try.underlying28 rfl acl_size (Ac.v X2.df qd.q) rfl ?_)
          | (refine wpList_load_part rfl 28 (.tmp 115) rfl w.heap.size 11 rfl (Ac.c x.df p.q).toList _ S.out.bt.df Try.underlying28 rfl acl_size (Ac.v x.df p.q) rfl ?_))
        refine HSD.out.mono ?_
        rintro e w5 ⟨rfl, hb⟩
        have S := Lib.hid (S.out.on hb)
        have HP := Lib.hid (HP.out.on hb)
        have HF := Lib.hid (HF.out.on hb)
        have HD := Lib.hid (HD.out.on hb)
        have HO := Lib.hid (HO.out.on hb)
        clear hb HSD f10 d10 x10
        have x10 := S.out.bt.c10
        rw [hh] at x10
        have x10 := S.out.bt.c10
        rw [hh] at x10
        have x0 := S.out.bt.c0
        have x2 := S.out.bt.c2
        have d0 := HD.out.bt.c0
        have d2 := HD.out.bt.c2
        have f2 := HF.out.bt.c2
        have a1 : bits .and .u8 (X2.bi : Int) 2 = ((x.bi &&& 2 : Nat) : Int) := by
          rw [show bits .and .u8 (X2.bi : Int) 2 = ((X2.bi &&& 2 : Nat) : Int) from and8 X2.bi 2 (by have := may8 HEN.out.may; omega) (by decide), HEN.out.bi]
        have a2 : bits .and .u8 (x.bi : Int) 2 = ((x.bi &&& 2 : Nat) : Int) := and8 x.bi 2 (by have := may8 HMX.out; omega) (by decide)
        obtain ⟨C, hC⟩ : ∃ C, C = At.c X2 qd := ⟨_, rfl⟩
        have hone : C.all (·.oneCell') = true := by rw [hC]; exact c_one _ _
        have hsz : (Try.prog.info? 31).map (·.size) = some C.size := by rw [hC]; exact c_size _ _
        have hold : (At.c y q).size = C.size := by rw [hC]; rfl
        obtain ⟨Z, hZ⟩ : ∃ Z, Z = World.setRow w5 g0 C := ⟨_, rfl⟩
        have HBT : Hid ((World.heap w5)[gd]? = some (.cells C 31 (0, 0))) := Lib.hid (by rw [hC]; exact HD.out.bt)
        have SN := Lib.hid (S.out.turn HG0.out C)
        have HPN : Hid (Ho (World.setRow w5 g0 C) g0 X2 qd) := Lib.hid (by rw [hC]; exact HP.out.put HD.out.ow)
        rw [← hZ] at SN HPN
        have HZZ := Lib.hid hZ
        clear hC hZ
        obtain ⟨b2, hb2⟩ : ∃ z, x.bi &&& 2 = z := ⟨_, rfl⟩
        rw [hb2] at a1 a2
        have HGI2 : Hid (b2 ≠ 0 → X1.gi = x.gi ∧ X2.gi = x.gi) := Lib.hid (fun h0 => HGI.out (by rw [hb2]; exact h0))
        clear hb2 HGI HF HO HD HUM HF1 HE S
        have db : ((b2 : Int) != (b2 : Int)) = false := by rw [bne_eq_false_iff_eq]
        by_cases hz : b2 = 0
        case pos =>
          subst hz
          have c1 : bits .and .u8 (X2.bi : Int) 2 = 0 := a1
          have c2 : bits .and .u8 (x.bi : Int) 2 = 0 := a2
          clear a1 a2 db d2 f2 x2 HGI2
          go_upto_region 21 with (fail)
          clear c1 c2 x0 d0 x10
          go_wp2_with (first
            | (refine wpList_load_row rfl 31 (.tmp 16) rfl gd rfl 31 C (0, 0) _ HBT.out Try.underlying31 rfl hsz ?_)
            | (refine wpList_store_rowTo rfl 31 (.tmp 11) (.tmp 155) rfl rfl g0 C rfl rfl 31 _ HP.out.bt hsz hold hone ?_; rw [← HZZ.out]))
          go_roundw
          case rel => exact ⟨k + 1, X2, qd, by go_num, by have := HKN.out; omega, HEN, SN, HPN⟩
          case measure => have := HKN.out; simp [intOf]; omega
        case neg =>
          obtain ⟨g1, g2⟩ := HGI2.out hz
          rw [g1] at f2
          rw [g2] at d2
          have dz : ((b2 : Int) != 0) = true := by rw [bne_iff_ne]; omega
          have dg : ((x.gi : Int) != (x.gi : Int)) = false := by rw [bne_eq_false_iff_eq]
          clear hz HGI2 g1 g2
          go_upto_region 21 with (fail)
          clear a1 a2 db dz dg x0 x2 d0 d2 f2 x10
          go_wp2_with (first
            | (refine wpList_load_row rfl 31 (.tmp 16) rfl gd rfl 31 C (0, 0) _ HBT.out Try.underlying31 rfl hsz ?_)
            | (refine wpList_store_rowTo rfl 31 (.tmp 11) (.tmp 155) rfl rfl g0 C rfl rfl 31 _ HP.out.bt hsz hold hone ?_; rw [← HZZ.out]))
          go_roundw
          case rel => exact ⟨k + 1, X2, qd, by go_num, by have := HKN.out; omega, HEN, SN, HPN⟩
          case measure => have := HKN.out; simp [intOf]; omega
end Go.Proofs.Ytgdiiicaljidpaa
