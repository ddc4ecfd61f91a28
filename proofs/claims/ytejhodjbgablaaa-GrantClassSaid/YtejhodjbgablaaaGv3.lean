/- GrantClass: whatever it is called with, it hands back true. -/
import Derived.Test.YtejhodjbgablaaaGu
import Derived.Test.YtejhodjbgablaaaAtStp
set_option linter.unusedSimpArgs false
set_option linter.unusedVariables false
namespace Go.Proofs.Ytejhodjbgablaaa
open Go.RowKit
set_option maxRecDepth 100000 in
set_option maxHeartbeats 16000000 in
theorem class_run (c : Cr) (A : Option Addr) (n : Nat) (x : At) (p : ALie) (dir : Bool) (q : Nat) (hq : q < 256) (w : World) (hc : CLies w c A) (h : ALies w x p) (hs : ABg x) (hn : Nb x.ac) :
    Calls Try.prog 5 #[c.v A n, x.v p, .bool dir, .int .u8 (q : Nat)] w fun e w' => e = .returned (.bool true) ∧ Below w.heap.size w w' := by
  obtain ⟨V, hV⟩ : ∃ V, V = (w.alloc (.cells (c.c A n) 25)).alloc (.cells (x.c p) 31) := ⟨_, rfl⟩
  have S0 : Hid (Pb w V c A n x p) := Lib.hid (by rw [hV]; exact Pb.start hc h)
  have HBG := Lib.hid hs
  clear hc h hs
  go_enter Try.func5, Try.ntmps5
  go_upto_region 1 with (fail)
  rw [← hV]
  clear hV
  go_wp2_with (first
    | (refine wpList_load_part rfl 25 (.tmp 4) rfl w.heap.size 0 rfl (c.c A n).toList _ S0.out.cb.all Try.underlying25 rfl cred_size (c.v A n) rfl ?_)
    | (refine wpList_load_part rfl 31 (.tmp 5) rfl (w.heap.size + 1) 0 rfl (x.c p).toList _ S0.out.bt.bt0 Try.underlying31 rfl attr_size (x.v p) rfl ?_))
  refine (glarge_calls c A n x p V S0.out.cl S0.out.al HBG.out).mono ?_
  rintro e w1 ⟨rfl, hb⟩
  have S1 := Lib.hid (S0.out.on hb)
  clear hb S0
  have yc0 := S1.out.cb.c0
  have ya1 := S1.out.bt.c1
  obtain ⟨u, hu⟩ : ∃ u, c.ui = u := ⟨_, rfl⟩
  obtain ⟨v, hv⟩ : ∃ v, x.ui = v := ⟨_, rfl⟩
  rw [hu] at yc0
  rw [hv] at ya1
  have HU := Lib.hid hu
  have HV := Lib.hid hv
  clear hu hv
  cases hlg : largeG c x
  case true =>
    clear hlg
    go_wp2_with (fail)
    refine (alive_calls _).mono ?_
    rintro e w9 ⟨rfl, hb⟩
    have S9 := Lib.hid (S1.out.on hb)
    clear hb
    go_wp2_with (fail)
    go_ret
    exact ⟨rfl, S9.out.be⟩
  case false =>
  obtain ⟨hs, hks, h60⟩ := largeG_no hlg
  have HS := Lib.hid hs
  have HK := Lib.hid hks
  have H60 := Lib.hid h60
  clear hs hks h60 hlg HBG
  by_cases h0 : u = 0
  case pos =>
    have k0 : ((u : Int) == 0) = true := by rw [h0]; rfl
    clear h0
    go_wp2_with (fail)
    refine (alive_calls _).mono ?_
    rintro e w9 ⟨rfl, hb⟩
    have S9 := Lib.hid (S1.out.on hb)
    clear hb
    go_wp2_with (fail)
    go_ret
    exact ⟨rfl, S9.out.be⟩
  case neg =>
  have k0 : ((u : Int) == 0) = false := by rw [beq_eq_false_iff_ne]; omega
  by_cases h1 : u = v
  case pos =>
    have k1 : ((u : Int) == (v : Int)) = true := by rw [h1]; exact beq_self_eq_true _
    clear h0 h1
    go_wp2_with (fail)
    refine (alive_calls _).mono ?_
    rintro e w9 ⟨rfl, hb⟩
    have S9 := Lib.hid (S1.out.on hb)
    clear hb
    go_wp2_with (fail)
    go_ret
    exact ⟨rfl, S9.out.be⟩
  case neg =>
  have k1 : ((u : Int) == (v : Int)) = false := by rw [beq_eq_false_iff_ne]; omega
  have HLW : Hid (mayG c x dir q = true → hasB (if namedN c x then classN x.ac else x.ac.ot) q = true) := Lib.hid (fun h => class_law (by rw [HU.out]; exact h0) (by rw [HU.out, HV.out]; exact h1) h)
  have HNM : Hid (namedN c x = (inB c x.gi || (x.ac.us.any (fun p => decide (p.id = u)) || x.ac.gs.any fun p => inB c p.id))) := Lib.hid (by rw [← HU.out]; rfl)
  have ya2 := S1.out.bt.c2
  have HN := Lib.hid hn
  clear h0 h1 hn
  go_wp2_with (refine wpList_load_part rfl 25 (.tmp 4) rfl w.heap.size 0 rfl (c.c A n).toList _ S1.out.cb.all Try.underlying25 rfl cred_size (c.v A n) rfl ?_)
  refine (in_calls c A n x.gi w1 S1.out.cl).mono ?_
  rintro e w2 ⟨rfl, hb⟩
  have S2 := Lib.hid (S1.out.on hb)
  clear hb S1 ya1 ya2 yc0 k1
  obtain ⟨t0, ht0⟩ : ∃ m, inB c x.gi = m := ⟨_, rfl⟩
  rw [ht0] at HNM ⊢
  clear ht0
  obtain ⟨nu, hnu⟩ : ∃ m, x.ac.us.length = m := ⟨_, rfl⟩
  obtain ⟨ng, hng⟩ : ∃ m, x.ac.gs.length = m := ⟨_, rfl⟩
  have hnu40 : nu ≤ 1099511627776 := by rw [← hnu]; exact HS.out.ac.us
  have hng40 : ng ≤ 1099511627776 := by rw [← hng]; exact HS.out.ac.gs
  have HNU := Lib.hid hnu
  have HNG := Lib.hid hng
  have yu6 : w2.cell? ⟨w.heap.size + 1, 6, none⟩ = some (.slice p.p.A nu p.p.c) := by rw [← hnu]; exact S2.out.bt.c6
  have yc0 : w2.cell? ⟨w.heap.size, 0, none⟩ = some (.int .u16 (u : Nat)) := by rw [← HU.out]; exact S2.out.cb.c0
  clear hnu hng
  go_wp2_with (fail)
  go_loopw [9, 10] (fun s i wr => ∃ k : Nat, i = .int .i64 k ∧ k ≤ nu ∧ (∃ t, s = .bool t ∧ Hid ((t0 || (x.ac.us.take k).any fun p => decide (p.id = u)) = t)) ∧ ∃ n1, wr = w2.drewN n1) (fun _ i _ => nu - (intOf i).toNat)
  case atStart => exact ⟨0, rfl, by omega, ⟨t0, rfl, Lib.hid (Bool.or_false _)⟩, 0, rfl⟩
  case round =>
    obtain ⟨k, rfl, hk, ⟨t, rfl, hT⟩, n1, rfl⟩ := hrel
    by_cases hkn : k < nu
    · obtain ⟨b1, o1, hA, hlt, hcell⟩ := S2.out.al.ac.us.nm (by rw [HNU.out]; omega)
      rw [hA] at yu6
      obtain ⟨r, hp⟩ : ∃ r, x.ac.us[k]? = some r := ⟨_, List.getElem?_eq_getElem (by rw [HNU.out]; exact hkn)⟩
      obtain ⟨e1, _⟩ := hcell k r hp
      have HT2 : Hid ((t0 || (x.ac.us.take (k + 1)).any fun p => decide (p.id = u)) = (t || decide (r.id = u))) := Lib.hid (by
        rw [List.take_add_one, hp, List.any_append, ← Bool.or_assoc, hT.out]
        show (t || (decide (r.id = u) || false)) = (t || decide (r.id = u))
        rw [Bool.or_false])
      have hd : ((r.id : Int) == (u : Int)) = decide (r.id = u) := by rw [Bool.eq_iff_iff, beq_iff_eq, decide_eq_true_eq]; exact Int.ofNat_inj
      obtain ⟨td, htd⟩ : ∃ m, decide (r.id = u) = m := ⟨_, rfl⟩
      rw [htd] at HT2 hd
      clear hp hcell hA htd hT
      generalize r.id = ri at *
      cases t
      case true =>
        go_wp2_with (fail)
        go_quiet (fail)
        go_wp2_with (fail)
        go_roundw
        case rel => exact ⟨k + 1, by go_num, by omega, ⟨true, rfl, Lib.hid (by rw [HT2.out]; rfl)⟩, _, rfl⟩
        case measure => simp [intOf]; omega
      case false =>
        cases td
        all_goals
          go_wp2_with (fail)
          go_quiet (fail)
          go_wp2_with (fail)
          go_roundw
          case rel => exact ⟨k + 1, by go_num, by omega, ⟨_, rfl, Lib.hid (by rw [HT2.out]; rfl)⟩, _, rfl⟩
          case measure => simp [intOf]; omega
    · obtain rfl : k = nu := by omega
      have HNM2 : Hid (namedN c x = (t || x.ac.gs.any fun p => inB c p.id)) := Lib.hid (by
        have h := hT.out
        rw [List.take_of_length_le (by rw [HNU.out]; exact Nat.le_refl _)] at h
        rw [HNM.out, ← Bool.or_assoc, h])
      have hbW : Below w2.heap.size w2 (w2.drewN n1) := below_drewN (Below.refl _ _) _
      have S3 := Lib.hid (S2.out.on hbW)
      have yu7 : w2.cell? ⟨w.heap.size + 1, 7, none⟩ = some (.slice p.p.B ng p.p.d) := by rw [← HNG.out]; exact S2.out.bt.c7
      clear hT HNM hbW
      go_wp2_with (fail)
      clear yu7 yu6
      go_loopw [9, 11] (fun s i wr => ∃ k : Nat, i = .int .i64 k ∧ k ≤ ng ∧ (∃ t2, s = .bool t2 ∧ Hid ((t || (x.ac.gs.take k).any fun p => inB c p.id) = t2)) ∧ Hid (Pb w wr c A n x p)) (fun _ i _ => ng - (intOf i).toNat)
      case atStart => exact ⟨0, rfl, by omega, ⟨t, rfl, Lib.hid (Bool.or_false _)⟩, S3⟩
      case round =>
        clear S2 S3
        obtain ⟨k2, rfl, hk, ⟨t2, rfl, hT⟩, hP⟩ := hrel
        have yu7 : wr.cell? ⟨w.heap.size + 1, 7, none⟩ = some (.slice p.p.B ng p.p.d) := by rw [← HNG.out]; exact hP.out.bt.c7
        by_cases hkn : k2 < ng
        · obtain ⟨b1, o1, hA, hlt, hcell⟩ := hP.out.al.ac.gs.nm (by rw [HNG.out]; omega)
          rw [hA] at yu7
          obtain ⟨r, hp⟩ : ∃ r, x.ac.gs[k2]? = some r := ⟨_, List.getElem?_eq_getElem (by rw [HNG.out]; exact hkn)⟩
          obtain ⟨e1, _⟩ := hcell k2 r hp
          obtain ⟨ri, hri⟩ : ∃ m, r.id = m := ⟨_, rfl⟩
          obtain ⟨ti, hti⟩ : ∃ m, inB c ri = m := ⟨_, rfl⟩
          have HT2 : Hid ((t || (x.ac.gs.take (k2 + 1)).any fun p => inB c p.id) = (t2 || ti)) := Lib.hid (by
            rw [List.take_add_one, hp, List.any_append, ← Bool.or_assoc, hT.out]
            show (t2 || (inB c r.id || false)) = (t2 || ti)
            rw [hri, hti, Bool.or_false])
          have HKI : Hid (∀ u, CLies u c A → Calls Try.prog 11 #[c.v A n, .int .u16 (ri : Nat)] u fun e w' => e = .returned (.bool ti) ∧ Below u.heap.size u w') := Lib.hid (fun u hl => hti ▸ in_calls c A n ri u hl)
          rw [hri] at e1
          have HY : Hid (∀ u, On wr u → u.cell? ⟨w.heap.size + 1, 7, none⟩ = some (.slice (some ⟨b1, o1, none⟩) ng p.p.d)) := Lib.hid (fun u hb => by rw [← hA, ← HNG.out]; exact (hP.out.bt.on hb).c7)
          have HE : Hid (∀ u, On wr u → u.cell? ⟨b1, o1 + k2 * 2, none⟩ = some (.int .u16 (ri : Nat))) := Lib.hid (fun u hb => (Below.cell hb hlt).trans e1)
          clear hp hcell hA hri hti hT
          cases t2
          case true =>
            go_wp2_with (fail)
            go_quiet (fail)
            have HP2 := Lib.hid (hP.out.on (below_drewN (Below.refl _ wr) nq))
            go_wp2_with (fail)
            go_roundw
            case rel => exact ⟨k2 + 1, by go_num, by omega, ⟨true, rfl, Lib.hid (by rw [HT2.out]; rfl)⟩, HP2⟩
            case measure => simp [intOf]; omega
          case false =>
            have z0 := cell_regrown (hP.out.cb.c0)
            have z1 := cell_regrown (hP.out.cb.c1)
            have z2 := cell_regrown (hP.out.cb.c2)
            have z3 := cell_regrown (hP.out.cb.c3)
            have z7 := cell_regrown yu7
            have ze := cell_regrown e1
            have cI : ∀ dq os, Calls Try.prog 11 #[.agg #[.int .u16 (c.ui : Nat), .int .u16 (c.gi : Nat), .slice A c.gs.length n, .bool c.hi], .int .u16 (ri : Nat)] (Go.Sort.grow (redrawn wr dq) os) fun e w'' => e = .returned (.bool ti) ∧ ∃ p : Regrown, w'' = Go.Sort.grow (redrawn wr p.d) p.os := fun dq os => Calls.regrown_of (HKI.out _ (hP.out.cl.below (below_regrown wr dq os)))
            go_upto_region 11 with (fail)
            clear e1 yu7 hlt HY HE HKI yc0
            generalize c.ui = cu at *
            generalize c.gi = cg at *
            generalize c.gs.length = cn at *
            generalize c.hi = ch at *
            refine wp_region_quiet_below (by kernel_rfl) (by kernel_rfl) ?_
            repeat (first | go_big_quiet_step (exact cI _ _) | quiet_step (exact cI _ _))
            refine wpQuiet_nil ?_
            intro _ hw'
            obtain ⟨⟨dq, osq⟩, hw''⟩ := hw'
            subst hw''
            have HP2 := Lib.hid (hP.out.on (below_regrown wr dq osq))
            generalize Go.Sort.grow (redrawn wr dq) osq = w' at *
            clear z0 z1 z2 z3 z7 ze cI
            go_wp2_with (fail)
            go_roundw
            case rel => exact ⟨k2 + 1, by go_num, by omega, ⟨ti, rfl, Lib.hid (by rw [HT2.out]; rfl)⟩, HP2⟩
            case measure => simp [intOf]; omega
        · obtain rfl : k2 = ng := by omega
          have HNM3 : Hid (namedN c x = t2) := Lib.hid (by
            have h := hT.out
            rw [List.take_of_length_le (by rw [HNG.out]; exact Nat.le_refl _)] at h
            rw [HNM2.out, h])
          have HLW2 : Hid (mayG c x dir q = true → hasB (if t2 then classN x.ac else x.ac.ot) q = true) := Lib.hid (fun h => by have := HLW.out h; rwa [HNM3.out] at this)
          have yg : wr.cell? ⟨w.heap.size + 1, 4, none⟩ = some (.int .u8 (x.ac.gr : Nat)) := hP.out.bt.cell 4
          have yh : wr.cell? ⟨w.heap.size + 1, 8, none⟩ = some (.bool x.ac.hm) := hP.out.bt.cell 8
          have ym : wr.cell? ⟨w.heap.size + 1, 9, none⟩ = some (.int .u8 (x.ac.ms : Nat)) := hP.out.bt.cell 9
          have HCL : Hid (classN x.ac = if x.ac.hm then x.ac.ms else x.ac.gr) := Lib.hid rfl
          have hgr := HN.out.gr
          have hms := HN.out.ms
          have hot := HN.out.ot
          have HMC : Hid (∀ u, CLies u c A → ALies u x p → Calls Try.prog 13 #[c.v A n, x.v p, .bool dir, .int .u8 (q : Nat)] u fun e w' => e = .returned (.bool (mayG c x dir q)) ∧ Below u.heap.size u w') := Lib.hid (fun u hc hl => may_calls c A n x p dir q u hc hl HS.out hq)
          clear hT HNM2 HNM3 HLW
          obtain ⟨hmv, hhm⟩ : ∃ m, x.ac.hm = m := ⟨_, rfl⟩
          rw [hhm] at yh HCL
          clear hhm
          generalize mayG c x dir q = tm at *
          cases hmv
          all_goals
            have HC2 : Hid (classN x.ac = _) := Lib.hid HCL.out
            go_wp2_with (first
              | (refine wpList_load_part rfl 25 (.tmp 4) rfl w.heap.size 0 rfl (c.c A n).toList _ hP.out.cb.all Try.underlying25 rfl cred_size (c.v A n) rfl ?_)
              | (refine wpList_load_part rfl 31 (.tmp 5) rfl (w.heap.size + 1) 0 rfl (x.c p).toList _ hP.out.bt.bt0 Try.underlying31 rfl attr_size (x.v p) rfl ?_))
            refine (HMC.out wr hP.out.cl hP.out.al).mono ?_
            rintro e w5 ⟨rfl, hb⟩
            have S5 := Lib.hid (hP.out.on hb)
            have yo : w5.cell? ⟨w.heap.size + 1, 5, none⟩ = some (.int .u8 (x.ac.ot : Nat)) := S5.out.bt.cell 5
            clear hb
            cases tm
            case false =>
              cases t2
              all_goals
                go_wp2_with (fail)
                refine (alive_calls _).mono ?_
                rintro e w9 ⟨rfl, hb⟩
                have S9 := Lib.hid (S5.out.on hb)
                clear hb
                go_wp2_with (fail)
                go_ret
                exact ⟨rfl, S9.out.be⟩
            case true =>
              have hL := HLW2.out rfl
              cases t2
              case true =>
                have hL2 : hasB (classN x.ac) q = true := hL
                rw [HCL.out] at hL2
                first | (have h8 := has8 x.ac.ms q hms hq; rw [show hasB x.ac.ms q = true from hL2] at h8) | (have h8 := has8 x.ac.gr q hgr hq; rw [show hasB x.ac.gr q = true from hL2] at h8)
                clear hL hL2
                go_wp2_with (fail)
                refine (alive_calls _).mono ?_
                rintro e w9 ⟨rfl, hb⟩
                have S9 := Lib.hid (S5.out.on hb)
                clear hb
                go_wp2_with (fail)
                go_ret
                exact ⟨rfl, S9.out.be⟩
              case false =>
                have hL2 : hasB x.ac.ot q = true := hL
                have h8 := has8 _ q hot hq
                rw [hL2] at h8
                clear hL hL2
                go_wp2_with (fail)
                refine (alive_calls _).mono ?_
                rintro e w9 ⟨rfl, hb⟩
                have S9 := Lib.hid (S5.out.on hb)
                clear hb
                go_wp2_with (fail)
                go_ret
                exact ⟨rfl, S9.out.be⟩
end Go.Proofs.Ytejhodjbgablaaa
