/- GrantOther: whatever it is called with, it hands back true. -/
import Derived.Test.YtejhodjbgablaaaGu
import Derived.Test.YtejhodjbgablaaaAtStp
set_option linter.unusedSimpArgs false
set_option linter.unusedVariables false
namespace Go.Proofs.Ytejhodjbgablaaa
open Go.RowKit
theorem turn_bt {W : World} {g : Nat} {x : At} {r : ALie} (h : Bt W g x r) (o : Nat) : Bt (W.setCell ⟨g, 5, none⟩ (.int .u8 (o : Nat))) g (turnOt x o) r := by
  have h1 := set_cell h 5 (.int .u8 (o : Nat))
  unfold Bt
  simpa [turnOt] using h1
theorem turn_lies {W : World} {x : At} {r : ALie} (h : ALies W x r) (o : Nat) : ALies W (turnOt x o) r := ⟨⟨h.ac.us, h.ac.gs⟩, h.df, h.xs⟩
theorem turn_sm {x : At} (h : ASm x) (o : Nat) : ASm (turnOt x o) := ⟨⟨h.ac.us, h.ac.gs⟩, h.df, h.xs⟩
set_option maxRecDepth 100000 in
set_option maxHeartbeats 16000000 in
theorem other_run (c : Cr) (A : Option Addr) (n : Nat) (x : At) (p : ALie) (dir : Bool) (q o : Nat) (hq : q < 256) (ho : o < 256) (w : World) (hc : CLies w c A) (h : ALies w x p) (hs : ABg x) :
    Calls Try.prog 7 #[c.v A n, x.v p, .bool dir, .int .u8 (q : Nat), .int .u8 (o : Nat)] w fun e w' => e = .returned (.bool true) ∧ Below w.heap.size w w' := by
  obtain ⟨V, hV⟩ : ∃ V, V = (w.alloc (.cells (c.c A n) 25)).alloc (.cells (x.c p) 31) := ⟨_, rfl⟩
  have S0 : Hid (Pb w V c A n x p) := Lib.hid (by rw [hV]; exact Pb.start hc h)
  have HBG := Lib.hid hs
  clear hc h hs
  go_enter Try.func7, Try.ntmps7
  go_upto_region 1 with (fail)
  rw [← hV]
  clear hV
  go_wp2_with (first
    | (refine wpList_load_part rfl 25 (.tmp 5) rfl w.heap.size 0 rfl (c.c A n).toList _ S0.out.cb.all Try.underlying25 rfl cred_size (c.v A n) rfl ?_)
    | (refine wpList_load_part rfl 31 (.tmp 6) rfl (w.heap.size + 1) 0 rfl (x.c p).toList _ S0.out.bt.bt0 Try.underlying31 rfl attr_size (x.v p) rfl ?_))
  refine (glarge_calls c A n x p V S0.out.cl S0.out.al HBG.out).mono ?_
  rintro e w1 ⟨rfl, hb⟩
  have S1 := Lib.hid (S0.out.on hb)
  clear hb S0
  have yc0 := S1.out.cb.c0
  have ya1 := S1.out.bt.c1
  have ya2 := S1.out.bt.c2
  obtain ⟨u, hu⟩ : ∃ u, c.ui = u := ⟨_, rfl⟩
  obtain ⟨v, hv⟩ : ∃ v, x.ui = v := ⟨_, rfl⟩
  rw [hu] at yc0
  rw [hv] at ya1
  have HU := Lib.hid hu
  have HV := Lib.hid hv
  clear hu hv
  cases hlg : largeG c x
  case true =>
    clear hlg
    go_wp2_with (fail)
    refine (alive_calls _).mono ?_
    rintro e w9 ⟨rfl, hb⟩
    have S9 := Lib.hid (S1.out.on hb)
    clear hb
    go_wp2_with (fail)
    go_ret
    exact ⟨rfl, S9.out.be⟩
  case false =>
  obtain ⟨hs, hks, h60⟩ := largeG_no hlg
  have HS := Lib.hid hs
  have HK := Lib.hid hks
  have H60 := Lib.hid h60
  clear hs hks h60 hlg HBG
  by_cases h0 : u = 0
  case pos =>
    have k0 : ((u : Int) == 0) = true := by rw [h0]; rfl
    clear h0
    go_wp2_with (fail)
    refine (alive_calls _).mono ?_
    rintro e w9 ⟨rfl, hb⟩
    have S9 := Lib.hid (S1.out.on hb)
    clear hb
    go_wp2_with (fail)
    go_ret
    exact ⟨rfl, S9.out.be⟩
  case neg =>
  have k0 : ((u : Int) == 0) = false := by rw [beq_eq_false_iff_ne]; omega
  go_wp2_with (refine wpList_load_part rfl 25 (.tmp 5) rfl w.heap.size 0 rfl (c.c A n).toList _ S1.out.cb.all Try.underlying25 rfl cred_size (c.v A n) rfl ?_)
  refine (in_calls c A n x.gi w1 S1.out.cl).mono ?_
  rintro e w2 ⟨rfl, hb⟩
  have S2 := Lib.hid (S1.out.on hb)
  have yc0 := S2.out.cb.c0
  have ya1 := S2.out.bt.c1
  rw [HU.out] at yc0
  rw [HV.out] at ya1
  clear hb S1
  cases ht0 : inB c x.gi
  case true =>
    have HGO : Hid (inB c x.gi = true ∨ c.ui = x.ui) := Lib.hid (.inl ht0)
    clear ht0
    obtain ⟨o8, ho8⟩ : ∃ m, o % 8 = m := ⟨_, rfl⟩
    have e8 : (o : Int) % 8 = (o8 : Int) := by omega
    have HOL : Hid (amayB x = amayB (turnOt x o8) → mayG c x dir q = mayG c (turnOt x o8) dir q) := Lib.hid (fun hv => other_law (by rw [HU.out]; exact h0) HGO.out hv)
    clear ho8 h0 HGO
    go_wp2_with (refine wpList_load_part rfl 31 (.tmp 6) rfl (w.heap.size + 1) 0 rfl (x.c p).toList _ S2.out.bt.bt0 Try.underlying31 rfl attr_size (x.v p) rfl ?_)
    refine (racopy_calls x p w2 S2.out.al HS.out).mono ?_
    rintro e w3 ⟨r, rfl, hC, hb⟩
    have S3 := Lib.hid (S2.out.on hb)
    have hl := hC.lies
    clear hb hC S2 yc0 ya1 ya2
    obtain ⟨C, hC⟩ : ∃ C, C = x.c r := ⟨_, rfl⟩
    have hone : C.all (·.oneCell') = true := by rw [hC]; exact c_one x r
    have hsz : (Try.prog.info? 31).map (·.size) = some C.size := by rw [hC]; exact c_size x r
    have hold : (zAt : Array Value).size = C.size := by rw [hC]; rfl
    have HZn := Lib.hid (heap_alloc_new w3 (.cells zAt 31))
    obtain ⟨U, hU⟩ : ∃ U, U = (w3.alloc (.cells zAt 31)).setRow w3.heap.size C := ⟨_, rfl⟩
    have bu : Below w3.heap.size w3 U := by rw [hU]; exact put_below w3 C
    obtain ⟨g, hh⟩ : ∃ g, g = w3.heap.size := ⟨_, rfl⟩
    have hbg : Bt U g x r := by rw [hU, hh, hC]; exact (Hl.put hl).bt
    have HSZ := Lib.hid hsz
    have HOLD := Lib.hid hold
    have HONE := Lib.hid hone
    rw [show x.v r = .agg C by rw [hC]]
    have HC : Hid (x.v r = .agg C) := Lib.hid (by rw [hC])
    clear hC hsz hold hone
    go_upto_region 4 with (first
      | (refine wpList_store_rowTo rfl 31 (.tmp 11) (.tmp 36) rfl rfl w3.heap.size C rfl rfl 31 _ HZn.out HSZ.out HOLD.out HONE.out ?_; rw [← hU]))
    rw [← hh, ← HC.out]
    obtain ⟨U2, hU2⟩ : ∃ U2, U2 = U.setCell ⟨g, 5, none⟩ (.int .u8 (o8 : Nat)) := ⟨_, rfl⟩
    have bu2 : Below w3.heap.size w3 U2 := by rw [hU2]; exact bu.setCell (by rw [hh]; exact Nat.le_refl _) _
    have HBT : Hid (Bt U2 g (turnOt x o8) r) := Lib.hid (by rw [hU2]; exact turn_bt hbg o8)
    have HLT : Hid (ALies U2 (turnOt x o8) r) := Lib.hid (turn_lies (hl.below bu2) o8)
    have S4 := Lib.hid (S3.out.on bu2)
    have yg5 : U.cell? ⟨g, 5, none⟩ = some (.int .u8 (x.ac.ot : Nat)) := hbg.cell 5
    have fg5 := hbg.frozen 5
    clear hU HZn HSZ HOLD HONE hh HC bu bu2 hbg hl S3
    obtain ⟨y, hy⟩ : ∃ y, turnOt x o8 = y := ⟨_, rfl⟩
    have HSY : Hid (ASm y) := Lib.hid (hy ▸ turn_sm HS.out o8)
    have HKY : Hid (Ks y) := Lib.hid (hy ▸ HK.out)
    rw [hy] at HBT HLT HOL
    clear hy
    go_upto_region 5 with (fail)
    rw [← hU2]
    clear hU2 yg5 fg5
    obtain ⟨m1, hm1⟩ : ∃ m, amayB x = m := ⟨_, rfl⟩
    obtain ⟨m2, hm2⟩ : ∃ m, amayB y = m := ⟨_, rfl⟩
    obtain ⟨tm, htm⟩ : ∃ m, mayG c x dir q = m := ⟨_, rfl⟩
    obtain ⟨tn, htn⟩ : ∃ m, mayG c y dir q = m := ⟨_, rfl⟩
    rw [hm1, hm2, htm, htn] at HOL
    have HR1 : Hid (∀ u, ALies u x p → Calls Try.prog 18 #[x.v p] u fun e w' => e = .returned (.bool m1) ∧ Below u.heap.size u w') := Lib.hid (fun u hl => hm1 ▸ ramay_calls x p u hl HS.out HK.out)
    have HR2 : Hid (∀ u, ALies u y r → Calls Try.prog 18 #[y.v r] u fun e w' => e = .returned (.bool m2) ∧ Below u.heap.size u w') := Lib.hid (fun u hl => hm2 ▸ ramay_calls y r u hl HSY.out HKY.out)
    have HM1 : Hid (∀ u, CLies u c A → ALies u x p → Calls Try.prog 13 #[c.v A n, x.v p, .bool dir, .int .u8 (q : Nat)] u fun e w' => e = .returned (.bool tm) ∧ Below u.heap.size u w') := Lib.hid (fun u hc hl => htm ▸ may_calls c A n x p dir q u hc hl HS.out hq)
    have HM2 : Hid (∀ u, CLies u c A → ALies u y r → Calls Try.prog 13 #[c.v A n, y.v r, .bool dir, .int .u8 (q : Nat)] u fun e w' => e = .returned (.bool tn) ∧ Below u.heap.size u w') := Lib.hid (fun u hc hl => htn ▸ may_calls c A n y r dir q u hc hl HSY.out hq)
    clear hm1 hm2 htm htn
    refine wp_region4 [.val (x.v p), .val (.bool m1), .val (y.v r), .val (.bool m2), .val (.bool (!(m1 == m2)))] (by kernel_rfl) (by kernel_rfl) (by kernel_rfl) ?steps ?rest
    case steps =>
      refine ⟨?s0, ?s1, ?s2, ?s3, ?s4, trivial⟩
      case s0 =>
        exact st4_val _ rfl (.inl rfl) fun a u hb hA hd => run_loadT rfl (w.heap.size + 1) x p (hA.eval 6 rfl) (S4.out.bt.on hb)
      case s1 =>
        refine st4_call _ rfl (.inl rfl) 18 fun a u hb hA hd => ?_
        have q0 := ev_of (show a.eval (.tmp 41) = x.v p from hd 0 41 rfl rfl _ rfl)
        refine ⟨#[x.v p], ?_, (HR1.out u (S4.out.al.below hb)).mono ?_⟩
        · unfold execOp
          simp [go_sem, q0]
        · rintro e w' ⟨rfl, hb'⟩
          exact ⟨_, rfl, rfl, hb'⟩
      case s2 =>
        exact st4_val _ rfl (.inl rfl) fun a u hb hA hd => run_loadT rfl g y r (hA.eval 11 rfl) (HBT.out.on hb)
      case s3 =>
        refine st4_call _ rfl (.inl rfl) 18 fun a u hb hA hd => ?_
        have q0 := ev_of (show a.eval (.tmp 43) = y.v r from hd 2 43 rfl rfl _ rfl)
        refine ⟨#[y.v r], ?_, (HR2.out u (HLT.out.below hb)).mono ?_⟩
        · unfold execOp
          simp [go_sem, q0]
        · rintro e w' ⟨rfl, hb'⟩
          exact ⟨_, rfl, rfl, hb'⟩
      case s4 =>
        exact st4_val _ rfl (.inl rfl) fun a u hb hA hd => by
          have q0 := ev_of (show a.eval (.tmp 42) = .bool m1 from hd 1 42 rfl rfl _ rfl)
          have q1 := ev_of (show a.eval (.tmp 44) = .bool m2 from hd 3 44 rfl rfl _ rfl)
          unfold execOp
          simp [go_sem, q0, q1]
    case rest =>
      intro vs w5 hb hR
      have ee : vs 4 = .bool (!(m1 == m2)) := hR 4 (by decide)
      simp only [putsFrom, Act.put, List.setIfInBounds_toArray, List.set_cons_succ, List.set_cons_zero, ee]
      generalize vs 0 = z0
      generalize vs 1 = z1
      generalize vs 2 = z2
      generalize vs 3 = z3
      have S5 := Lib.hid (S4.out.on hb)
      have HBT5 := Lib.hid (HBT.out.on hb)
      have HLT5 := Lib.hid (HLT.out.below hb)
      clear hR hb S4 HBT HLT HR1 HR2
      by_cases hmm : m1 = m2
      case neg =>
        have e1 : (m1 == m2) = false := by simpa using hmm
        rw [e1]
        clear hmm e1
        go_wp2_with (fail)
        refine (alive_calls _).mono ?_
        rintro e w9 ⟨rfl, hb⟩
        have S9 := Lib.hid (S5.out.on hb)
        clear hb
        go_wp2_with (fail)
        go_ret
        exact ⟨rfl, S9.out.be⟩
      case pos =>
        have e1 : (m1 == m2) = true := by simpa using hmm
        have HEQ := Lib.hid (HOL.out hmm)
        rw [e1]
        clear hmm HOL e1
        go_upto_region 7 with (fail)
        refine wp_region4 [.val (c.v A n), .val (x.v p), .val (.bool dir), .val (.int .u8 (q : Nat)), .val (.bool tm), .val (c.v A n), .val (y.v r), .val (.bool dir), .val (.int .u8 (q : Nat)), .val (.bool tm), .val (.bool true), .val (.bool true), .val (.bool true), .val (.bool true), .val (.bool true)] (by kernel_rfl) (by kernel_rfl) (by kernel_rfl) ?steps ?rest
        case steps =>
          refine ⟨?s0, ?s1, ?s2, ?s3, ?s4, ?s5, ?s6, ?s7, ?s8, ?s9, ?s10, ?s11, ?s12, ?s13, ?s14, trivial⟩
          case s0 =>
            exact st4_val _ rfl (.inl rfl) fun a u hb hA hd => run_loadC rfl w.heap.size c A n (hA.eval 5 rfl) (S5.out.cb.on hb)
          case s1 =>
            exact st4_val _ rfl (.inl rfl) fun a u hb hA hd => run_loadT rfl (w.heap.size + 1) x p (hA.eval 6 rfl) (S5.out.bt.on hb)
          case s2 =>
            exact st4_val _ rfl (.inl rfl) fun a u hb hA hd => by
              have q0 := ev_of (show a.eval (.tmp 2) = .bool dir from hA.eval 2 rfl)
              unfold execOp
              simp [go_sem, q0]
          case s3 =>
            exact st4_val _ rfl (.inl rfl) fun a u hb hA hd => by
              have q0 := ev_of (show a.eval (.tmp 3) = .int .u8 (q : Nat) from hA.eval 3 rfl)
              unfold execOp
              simp [go_sem, q0]
          case s4 =>
            refine st4_call _ rfl (.inl rfl) 13 fun a u hb hA hd => ?_
            have q0 := ev_of (show a.eval (.tmp 47) = c.v A n from hd 0 47 rfl rfl _ rfl)
            have q1 := ev_of (show a.eval (.tmp 48) = x.v p from hd 1 48 rfl rfl _ rfl)
            have q2 := ev_of (show a.eval (.tmp 49) = .bool dir from hd 2 49 rfl rfl _ rfl)
            have q3 := ev_of (show a.eval (.tmp 50) = .int .u8 (q : Nat) from hd 3 50 rfl rfl _ rfl)
            refine ⟨#[c.v A n, x.v p, .bool dir, .int .u8 (q : Nat)], ?_, (HM1.out u (S5.out.cl.below hb) (S5.out.al.below hb)).mono ?_⟩
            · unfold execOp
              simp [go_sem, q0, q1, q2, q3]
            · rintro e w' ⟨rfl, hb'⟩
              exact ⟨_, rfl, rfl, hb'⟩
          case s5 =>
            exact st4_val _ rfl (.inl rfl) fun a u hb hA hd => run_loadC rfl w.heap.size c A n (hA.eval 5 rfl) (S5.out.cb.on hb)
          case s6 =>
            exact st4_val _ rfl (.inl rfl) fun a u hb hA hd => run_loadT rfl g y r (hA.eval 11 rfl) (HBT5.out.on hb)
          case s7 =>
            exact st4_val _ rfl (.inl rfl) fun a u hb hA hd => by
              have q0 := ev_of (show a.eval (.tmp 2) = .bool dir from hA.eval 2 rfl)
              unfold execOp
              simp [go_sem, q0]
          case s8 =>
            exact st4_val _ rfl (.inl rfl) fun a u hb hA hd => by
              have q0 := ev_of (show a.eval (.tmp 3) = .int .u8 (q : Nat) from hA.eval 3 rfl)
              unfold execOp
              simp [go_sem, q0]
          case s9 =>
            refine st4_call _ rfl (.inl rfl) 13 fun a u hb hA hd => ?_
            have q0 := ev_of (show a.eval (.tmp 52) = c.v A n from hd 5 52 rfl rfl _ rfl)
            have q1 := ev_of (show a.eval (.tmp 53) = y.v r from hd 6 53 rfl rfl _ rfl)
            have q2 := ev_of (show a.eval (.tmp 54) = .bool dir from hd 7 54 rfl rfl _ rfl)
            have q3 := ev_of (show a.eval (.tmp 55) = .int .u8 (q : Nat) from hd 8 55 rfl rfl _ rfl)
            refine ⟨#[c.v A n, y.v r, .bool dir, .int .u8 (q : Nat)], ?_, (HM2.out u (S5.out.cl.below hb) (HLT5.out.below hb)).mono ?_⟩
            · unfold execOp
              simp [go_sem, q0, q1, q2, q3]
            · rintro e w' ⟨rfl, hb'⟩
              exact ⟨_, rfl, by rw [HEQ.out]; rfl, hb'⟩
          case s10 =>
            exact st4_val _ rfl (.inl rfl) fun a u hb hA hd => by
              have q0 := ev_of (show a.eval (.tmp 51) = .bool tm from hd 4 51 rfl rfl _ rfl)
              have q1 := ev_of (show a.eval (.tmp 56) = .bool tm from hd 9 56 rfl rfl _ rfl)
              unfold execOp
              simp [go_sem, q0, q1]
          case s11 =>
            exact st4_move 10 57 rfl (.inl rfl) rfl rfl rfl
          case s12 =>
            refine st4_call _ rfl (.inr ⟨11, 58, true, rfl, rfl, rfl, rfl⟩) 9 fun a u hb hA hd => ?_
            refine ⟨#[], ?_, (alive_calls u).mono ?_⟩
            · unfold execOp
              simp [go_sem]
            · rintro e w' ⟨rfl, hb'⟩
              exact ⟨_, rfl, rfl, hb'⟩
          case s13 =>
            exact st4_val _ rfl (.inl rfl) fun a u hb hA hd => by
              have q0 := hd 11 58 rfl rfl _ rfl
              have q1 := hd 12 59 rfl rfl _ rfl
              rw [run_pickT rfl q0]
              exact congrArg (fun z => Result.ok (Next.value z) u) q1
          case s14 =>
            exact st4_assign 13 60 rfl (.inl rfl) rfl rfl rfl
        case rest =>
          intro vs u hb hR
          have ee : vs 14 = .bool true := hR 14 (by decide)
          simp only [putsFrom, Act.put, List.setIfInBounds_toArray, List.set_cons_succ, List.set_cons_zero, ee]
          generalize vs 0 = z0
          generalize vs 1 = z1
          generalize vs 2 = z2
          generalize vs 3 = z3
          generalize vs 4 = z4
          generalize vs 5 = z5
          generalize vs 6 = z6
          generalize vs 7 = z7
          generalize vs 8 = z8
          generalize vs 9 = z9
          generalize vs 10 = z10
          generalize vs 11 = z11
          generalize vs 12 = z12
          generalize vs 13 = z13
          have HBE := Lib.hid (S5.out.on hb).be
          clear hR hb
          go_wp2_with (fail)
          go_ret
          exact ⟨rfl, HBE.out⟩
  case false =>
  by_cases h1 : u = v
  case neg =>
    have k1 : ((u : Int) != (v : Int)) = true := by
      rw [bne_iff_ne]
      omega
    clear h1 ht0
    go_wp2_with (fail)
    refine (alive_calls _).mono ?_
    rintro e w9 ⟨rfl, hb⟩
    have S9 := Lib.hid (S2.out.on hb)
    clear hb
    go_wp2_with (fail)
    go_ret
    exact ⟨rfl, S9.out.be⟩
  case pos =>
    have k1 : ((u : Int) != (v : Int)) = false := by rw [h1]; exact bne_self_eq_false _
    have HGO : Hid (inB c x.gi = true ∨ c.ui = x.ui) := Lib.hid (.inr (by rw [HU.out, HV.out]; exact h1))
    clear h1 ht0
    obtain ⟨o8, ho8⟩ : ∃ m, o % 8 = m := ⟨_, rfl⟩
    have e8 : (o : Int) % 8 = (o8 : Int) := by omega
    have HOL : Hid (amayB x = amayB (turnOt x o8) → mayG c x dir q = mayG c (turnOt x o8) dir q) := Lib.hid (fun hv => other_law (by rw [HU.out]; exact h0) HGO.out hv)
    clear ho8 h0 HGO
    go_wp2_with (refine wpList_load_part rfl 31 (.tmp 6) rfl (w.heap.size + 1) 0 rfl (x.c p).toList _ S2.out.bt.bt0 Try.underlying31 rfl attr_size (x.v p) rfl ?_)
    refine (racopy_calls x p w2 S2.out.al HS.out).mono ?_
    rintro e w3 ⟨r, rfl, hC, hb⟩
    have S3 := Lib.hid (S2.out.on hb)
    have hl := hC.lies
    clear hb hC S2 yc0 ya1 ya2
    obtain ⟨C, hC⟩ : ∃ C, C = x.c r := ⟨_, rfl⟩
    have hone : C.all (·.oneCell') = true := by rw [hC]; exact c_one x r
    have hsz : (Try.prog.info? 31).map (·.size) = some C.size := by rw [hC]; exact c_size x r
    have hold : (zAt : Array Value).size = C.size := by rw [hC]; rfl
    have HZn := Lib.hid (heap_alloc_new w3 (.cells zAt 31))
    obtain ⟨U, hU⟩ : ∃ U, U = (w3.alloc (.cells zAt 31)).setRow w3.heap.size C := ⟨_, rfl⟩
    have bu : Below w3.heap.size w3 U := by rw [hU]; exact put_below w3 C
    obtain ⟨g, hh⟩ : ∃ g, g = w3.heap.size := ⟨_, rfl⟩
    have hbg : Bt U g x r := by rw [hU, hh, hC]; exact (Hl.put hl).bt
    have HSZ := Lib.hid hsz
    have HOLD := Lib.hid hold
    have HONE := Lib.hid hone
    rw [show x.v r = .agg C by rw [hC]]
    have HC : Hid (x.v r = .agg C) := Lib.hid (by rw [hC])
    clear hC hsz hold hone
    go_upto_region 4 with (first
      | (refine wpList_store_rowTo rfl 31 (.tmp 11) (.tmp 36) rfl rfl w3.heap.size C rfl rfl 31 _ HZn.out HSZ.out HOLD.out HONE.out ?_; rw [← hU]))
    rw [← hh, ← HC.out]
    obtain ⟨U2, hU2⟩ : ∃ U2, U2 = U.setCell ⟨g, 5, none⟩ (.int .u8 (o8 : Nat)) := ⟨_, rfl⟩
    have bu2 : Below w3.heap.size w3 U2 := by rw [hU2]; exact bu.setCell (by rw [hh]; exact Nat.le_refl _) _
    have HBT : Hid (Bt U2 g (turnOt x o8) r) := Lib.hid (by rw [hU2]; exact turn_bt hbg o8)
    have HLT : Hid (ALies U2 (turnOt x o8) r) := Lib.hid (turn_lies (hl.below bu2) o8)
    have S4 := Lib.hid (S3.out.on bu2)
    have yg5 : U.cell? ⟨g, 5, none⟩ = some (.int .u8 (x.ac.ot : Nat)) := hbg.cell 5
    have fg5 := hbg.frozen 5
    clear hU HZn HSZ HOLD HONE hh HC bu bu2 hbg hl S3
    obtain ⟨y, hy⟩ : ∃ y, turnOt x o8 = y := ⟨_, rfl⟩
    have HSY : Hid (ASm y) := Lib.hid (hy ▸ turn_sm HS.out o8)
    have HKY : Hid (Ks y) := Lib.hid (hy ▸ HK.out)
    rw [hy] at HBT HLT HOL
    clear hy
    go_upto_region 5 with (fail)
    rw [← hU2]
    clear hU2 yg5 fg5
    obtain ⟨m1, hm1⟩ : ∃ m, amayB x = m := ⟨_, rfl⟩
    obtain ⟨m2, hm2⟩ : ∃ m, amayB y = m := ⟨_, rfl⟩
    obtain ⟨tm, htm⟩ : ∃ m, mayG c x dir q = m := ⟨_, rfl⟩
    obtain ⟨tn, htn⟩ : ∃ m, mayG c y dir q = m := ⟨_, rfl⟩
    rw [hm1, hm2, htm, htn] at HOL
    have HR1 : Hid (∀ u, ALies u x p → Calls Try.prog 18 #[x.v p] u fun e w' => e = .returned (.bool m1) ∧ Below u.heap.size u w') := Lib.hid (fun u hl => hm1 ▸ ramay_calls x p u hl HS.out HK.out)
    have HR2 : Hid (∀ u, ALies u y r → Calls Try.prog 18 #[y.v r] u fun e w' => e = .returned (.bool m2) ∧ Below u.heap.size u w') := Lib.hid (fun u hl => hm2 ▸ ramay_calls y r u hl HSY.out HKY.out)
    have HM1 : Hid (∀ u, CLies u c A → ALies u x p → Calls Try.prog 13 #[c.v A n, x.v p, .bool dir, .int .u8 (q : Nat)] u fun e w' => e = .returned (.bool tm) ∧ Below u.heap.size u w') := Lib.hid (fun u hc hl => htm ▸ may_calls c A n x p dir q u hc hl HS.out hq)
    have HM2 : Hid (∀ u, CLies u c A → ALies u y r → Calls Try.prog 13 #[c.v A n, y.v r, .bool dir, .int .u8 (q : Nat)] u fun e w' => e = .returned (.bool tn) ∧ Below u.heap.size u w') := Lib.hid (fun u hc hl => htn ▸ may_calls c A n y r dir q u hc hl HSY.out hq)
    clear hm1 hm2 htm htn
    refine wp_region4 [.val (x.v p), .val (.bool m1), .val (y.v r), .val (.bool m2), .val (.bool (!(m1 == m2)))] (by kernel_rfl) (by kernel_rfl) (by kernel_rfl) ?steps ?rest
    case steps =>
      refine ⟨?s0, ?s1, ?s2, ?s3, ?s4, trivial⟩
      case s0 =>
        exact st4_val _ rfl (.inl rfl) fun a u hb hA hd => run_loadT rfl (w.heap.size + 1) x p (hA.eval 6 rfl) (S4.out.bt.on hb)
      case s1 =>
        refine st4_call _ rfl (.inl rfl) 18 fun a u hb hA hd => ?_
        have q0 := ev_of (show a.eval (.tmp 41) = x.v p from hd 0 41 rfl rfl _ rfl)
        refine ⟨#[x.v p], ?_, (HR1.out u (S4.out.al.below hb)).mono ?_⟩
        · unfold execOp
          simp [go_sem, q0]
        · rintro e w' ⟨rfl, hb'⟩
          exact ⟨_, rfl, rfl, hb'⟩
      case s2 =>
        exact st4_val _ rfl (.inl rfl) fun a u hb hA hd => run_loadT rfl g y r (hA.eval 11 rfl) (HBT.out.on hb)
      case s3 =>
        refine st4_call _ rfl (.inl rfl) 18 fun a u hb hA hd => ?_
        have q0 := ev_of (show a.eval (.tmp 43) = y.v r from hd 2 43 rfl rfl _ rfl)
        refine ⟨#[y.v r], ?_, (HR2.out u (HLT.out.below hb)).mono ?_⟩
        · unfold execOp
          simp [go_sem, q0]
        · rintro e w' ⟨rfl, hb'⟩
          exact ⟨_, rfl, rfl, hb'⟩
      case s4 =>
        exact st4_val _ rfl (.inl rfl) fun a u hb hA hd => by
          have q0 := ev_of (show a.eval (.tmp 42) = .bool m1 from hd 1 42 rfl rfl _ rfl)
          have q1 := ev_of (show a.eval (.tmp 44) = .bool m2 from hd 3 44 rfl rfl _ rfl)
          unfold execOp
          simp [go_sem, q0, q1]
    case rest =>
      intro vs w5 hb hR
      have ee : vs 4 = .bool (!(m1 == m2)) := hR 4 (by decide)
      simp only [putsFrom, Act.put, List.setIfInBounds_toArray, List.set_cons_succ, List.set_cons_zero, ee]
      generalize vs 0 = z0
      generalize vs 1 = z1
      generalize vs 2 = z2
      generalize vs 3 = z3
      have S5 := Lib.hid (S4.out.on hb)
      have HBT5 := Lib.hid (HBT.out.on hb)
      have HLT5 := Lib.hid (HLT.out.below hb)
      clear hR hb S4 HBT HLT HR1 HR2
      by_cases hmm : m1 = m2
      case neg =>
        have e1 : (m1 == m2) = false := by simpa using hmm
        rw [e1]
        clear hmm e1
        go_wp2_with (fail)
        refine (alive_calls _).mono ?_
        rintro e w9 ⟨rfl, hb⟩
        have S9 := Lib.hid (S5.out.on hb)
        clear hb
        go_wp2_with (fail)
        go_ret
        exact ⟨rfl, S9.out.be⟩
      case pos =>
        have e1 : (m1 == m2) = true := by simpa using hmm
        have HEQ := Lib.hid (HOL.out hmm)
        rw [e1]
        clear hmm HOL e1
        go_upto_region 7 with (fail)
        refine wp_region4 [.val (c.v A n), .val (x.v p), .val (.bool dir), .val (.int .u8 (q : Nat)), .val (.bool tm), .val (c.v A n), .val (y.v r), .val (.bool dir), .val (.int .u8 (q : Nat)), .val (.bool tm), .val (.bool true), .val (.bool true), .val (.bool true), .val (.bool true), .val (.bool true)] (by kernel_rfl) (by kernel_rfl) (by kernel_rfl) ?steps ?rest
        case steps =>
          refine ⟨?s0, ?s1, ?s2, ?s3, ?s4, ?s5, ?s6, ?s7, ?s8, ?s9, ?s10, ?s11, ?s12, ?s13, ?s14, trivial⟩
          case s0 =>
            exact st4_val _ rfl (.inl rfl) fun a u hb hA hd => run_loadC rfl w.heap.size c A n (hA.eval 5 rfl) (S5.out.cb.on hb)
          case s1 =>
            exact st4_val _ rfl (.inl rfl) fun a u hb hA hd => run_loadT rfl (w.heap.size + 1) x p (hA.eval 6 rfl) (S5.out.bt.on hb)
          case s2 =>
            exact st4_val _ rfl (.inl rfl) fun a u hb hA hd => by
              have q0 := ev_of (show a.eval (.tmp 2) = .bool dir from hA.eval 2 rfl)
              unfold execOp
              simp [go_sem, q0]
          case s3 =>
            exact st4_val _ rfl (.inl rfl) fun a u hb hA hd => by
              have q0 := ev_of (show a.eval (.tmp 3) = .int .u8 (q : Nat) from hA.eval 3 rfl)
              unfold execOp
              simp [go_sem, q0]
          case s4 =>
            refine st4_call _ rfl (.inl rfl) 13 fun a u hb hA hd => ?_
            have q0 := ev_of (show a.eval (.tmp 47) = c.v A n from hd 0 47 rfl rfl _ rfl)
            have q1 := ev_of (show a.eval (.tmp 48) = x.v p from hd 1 48 rfl rfl _ rfl)
            have q2 := ev_of (show a.eval (.tmp 49) = .bool dir from hd 2 49 rfl rfl _ rfl)
            have q3 := ev_of (show a.eval (.tmp 50) = .int .u8 (q : Nat) from hd 3 50 rfl rfl _ rfl)
            refine ⟨#[c.v A n, x.v p, .bool dir, .int .u8 (q : Nat)], ?_, (HM1.out u (S5.out.cl.below hb) (S5.out.al.below hb)).mono ?_⟩
            · unfold execOp
              simp [go_sem, q0, q1, q2, q3]
            · rintro e w' ⟨rfl, hb'⟩
              exact ⟨_, rfl, rfl, hb'⟩
          case s5 =>
            exact st4_val _ rfl (.inl rfl) fun a u hb hA hd => run_loadC rfl w.heap.size c A n (hA.eval 5 rfl) (S5.out.cb.on hb)
          case s6 =>
            exact st4_val _ rfl (.inl rfl) fun a u hb hA hd => run_loadT rfl g y r (hA.eval 11 rfl) (HBT5.out.on hb)
          case s7 =>
            exact st4_val _ rfl (.inl rfl) fun a u hb hA hd => by
              have q0 := ev_of (show a.eval (.tmp 2) = .bool dir from hA.eval 2 rfl)
              unfold execOp
              simp [go_sem, q0]
          case s8 =>
            exact st4_val _ rfl (.inl rfl) fun a u hb hA hd => by
              have q0 := ev_of (show a.eval (.tmp 3) = .int .u8 (q : Nat) from hA.eval 3 rfl)
              unfold execOp
              simp [go_sem, q0]
          case s9 =>
            refine st4_call _ rfl (.inl rfl) 13 fun a u hb hA hd => ?_
            have q0 := ev_of (show a.eval (.tmp 52) = c.v A n from hd 5 52 rfl rfl _ rfl)
            have q1 := ev_of (show a.eval (.tmp 53) = y.v r from hd 6 53 rfl rfl _ rfl)
            have q2 := ev_of (show a.eval (.tmp 54) = .bool dir from hd 7 54 rfl rfl _ rfl)
            have q3 := ev_of (show a.eval (.tmp 55) = .int .u8 (q : Nat) from hd 8 55 rfl rfl _ rfl)
            refine ⟨#[c.v A n, y.v r, .bool dir, .int .u8 (q : Nat)], ?_, (HM2.out u (S5.out.cl.below hb) (HLT5.out.below hb)).mono ?_⟩
            · unfold execOp
              simp [go_sem, q0, q1, q2, q3]
            · rintro e w' ⟨rfl, hb'⟩
              exact ⟨_, rfl, by rw [HEQ.out]; rfl, hb'⟩
          case s10 =>
            exact st4_val _ rfl (.inl rfl) fun a u hb hA hd => by
              have q0 := ev_of (show a.eval (.tmp 51) = .bool tm from hd 4 51 rfl rfl _ rfl)
              have q1 := ev_of (show a.eval (.tmp 56) = .bool tm from hd 9 56 rfl rfl _ rfl)
              unfold execOp
              simp [go_sem, q0, q1]
          case s11 =>
            exact st4_move 10 57 rfl (.inl rfl) rfl rfl rfl
          case s12 =>
            refine st4_call _ rfl (.inr ⟨11, 58, true, rfl, rfl, rfl, rfl⟩) 9 fun a u hb hA hd => ?_
            refine ⟨#[], ?_, (alive_calls u).mono ?_⟩
            · unfold execOp
              simp [go_sem]
            · rintro e w' ⟨rfl, hb'⟩
              exact ⟨_, rfl, rfl, hb'⟩
          case s13 =>
            exact st4_val _ rfl (.inl rfl) fun a u hb hA hd => by
              have q0 := hd 11 58 rfl rfl _ rfl
              have q1 := hd 12 59 rfl rfl _ rfl
              rw [run_pickT rfl q0]
              exact congrArg (fun z => Result.ok (Next.value z) u) q1
          case s14 =>
            exact st4_assign 13 60 rfl (.inl rfl) rfl rfl rfl
        case rest =>
          intro vs u hb hR
          have ee : vs 14 = .bool true := hR 14 (by decide)
          simp only [putsFrom, Act.put, List.setIfInBounds_toArray, List.set_cons_succ, List.set_cons_zero, ee]
          generalize vs 0 = z0
          generalize vs 1 = z1
          generalize vs 2 = z2
          generalize vs 3 = z3
          generalize vs 4 = z4
          generalize vs 5 = z5
          generalize vs 6 = z6
          generalize vs 7 = z7
          generalize vs 8 = z8
          generalize vs 9 = z9
          generalize vs 10 = z10
          generalize vs 11 = z11
          generalize vs 12 = z12
          generalize vs 13 = z13
          have HBE := Lib.hid (S5.out.on hb).be
          clear hR hb
          go_wp2_with (fail)
          go_ret
          exact ⟨rfl, HBE.out⟩
end Go.Proofs.Ytejhodjbgablaaa
