/- AttrOwn: whatever it is called with, it hands back true. -/
import Derived.Test.YtlejmpinfbmccaaGreatDoorSp
import Derived.Test.YtlejmpinfbmccaaGreatDoorSa
import Derived.Test.YtlejmpinfbmccaaGreatDoorBk
set_option linter.unusedSimpArgs false
set_option linter.unusedVariables false
set_option linter.unusedSimpArgs false
set_option linter.unusedVariables false
namespace Go.Proofs.YtlejmpinfbmccaaGreatDoor
open Go.RowKit SumMath WordMath
set_option maxRecDepth 100000 in
set_option maxHeartbeats 8000000 in
theorem aown_law (n : Sn) (x y : At) (p q : ALie) (w : World) (h1 : ALies w x p) (h2 : ALies w y q) (hs1 : ABg x) (hs2 : ABg y) (hx : ANum x) (hy : ANum y) (hT : TabAt w) (hE : ErrAt w) (hN : SnAt w n) :
    Calls Tryz.prog 7 #[x.v p, y.v q] w fun e w' => e = .returned (.bool true) ∧ Below w.heap.size w w' := by
  obtain ⟨V, hV⟩ : ∃ V, V = (w.alloc (.cells (x.c p) 28)).alloc (.cells (y.c q) 28) := ⟨_, rfl⟩
  have S0 : Hid (Two w V x y p q) := Lib.hid (by rw [hV]; exact Two.start h1 h2)
  have hal : ∀ W : World, Below w.heap.size w W → Calls Tryz.prog 9 #[] W fun e w' => e = .returned (.bool true) ∧ Below W.heap.size W w' := fun W hB => alive_calls n W (hT.below hB) (hE.below hB) (hN.below hB)
  have HAL := Lib.hid hal
  have HT := Lib.hid hT
  have HX := Lib.hid hx
  have HY := Lib.hid hy
  obtain ⟨lx, hlx⟩ : ∃ l, largeB x = l := ⟨_, rfl⟩
  obtain ⟨ly, hly⟩ : ∃ l, largeB y = l := ⟨_, rfl⟩
  have HLX : Hid (∀ u, ALies u x p → Calls Tryz.prog 8 #[x.v p] u fun e w' => e = .returned (.bool lx) ∧ Below u.heap.size u w') := Lib.hid (fun u hl => hlx ▸ alarge_calls x p u hl hs1)
  have HLY : Hid (∀ u, ALies u y q → Calls Tryz.prog 8 #[y.v q] u fun e w' => e = .returned (.bool ly) ∧ Below u.heap.size u w') := Lib.hid (fun u hl => hly ▸ alarge_calls y q u hl hs2)
  have HGX := Lib.hid hlx
  have HGY := Lib.hid hly
  clear h1 h2 hs1 hs2 hx hy hT hE hN hal hlx hly
  go_enter Tryz.func7, Tryz.ntmps7
  go_upto_region 1 with (fail)
  rw [← hV]
  clear hV
  go_wp2_with (refine wpList_load_part rfl 28 (.tmp 2) rfl w.heap.size 0 rfl (x.c p).toList _ S0.out.one.bt0 Tryz.underlying28 rfl attr_size (x.v p) rfl ?_)
  refine (HLX.out _ S0.out.l1).mono ?_
  rintro e w1 ⟨rfl, hb⟩
  have S1 := Lib.hid (S0.out.on hb)
  clear hb S0 HLX
  cases lx
  case true =>
    go_wp2_with (fail)
    refine (HAL.out _ S1.out.be).mono ?_
    rintro e w9 ⟨rfl, hb⟩
    have S9 := Lib.hid (S1.out.on hb)
    clear hb
    go_wp2_with (fail)
    go_ret
    exact ⟨rfl, S9.out.be⟩
  case false =>
  go_wp2_with (refine wpList_load_part rfl 28 (.tmp 3) rfl (w.heap.size + 1) 0 rfl (y.c q).toList _ S1.out.two.bt0 Tryz.underlying28 rfl attr_size (y.v q) rfl ?_)
  refine (HLY.out _ S1.out.l2).mono ?_
  rintro e w2 ⟨rfl, hb⟩
  have S2 := Lib.hid (S1.out.on hb)
  clear hb S1 HLY
  cases ly
  case true =>
    go_wp2_with (fail)
    refine (HAL.out _ S2.out.be).mono ?_
    rintro e w9 ⟨rfl, hb⟩
    have S9 := Lib.hid (S2.out.on hb)
    clear hb
    go_wp2_with (fail)
    go_ret
    exact ⟨rfl, S9.out.be⟩
  case false =>
  have HS1 := Lib.hid (large_no HGX.out).1
  have HS2 := Lib.hid (large_no HGY.out).1
  clear HGX HGY
  go_wp2_with (refine wpList_load_part rfl 28 (.tmp 2) rfl w.heap.size 0 rfl (x.c p).toList _ S2.out.one.bt0 Tryz.underlying28 rfl attr_size (x.v p) rfl ?_)
  refine (racopy_calls x p w2 S2.out.l1 HS1.out).mono ?_
  rintro e w3 ⟨o, rfl, hC, hb⟩
  have S3 := Lib.hid (S2.out.on hb)
  have L3 := Lib.hid hC.lies
  clear hb S2 hC
  obtain ⟨C, hC⟩ : ∃ C, C = x.c o := ⟨_, rfl⟩
  have hone : C.all (·.oneCell') = true := by rw [hC]; exact c_one x o
  have hsz : (Tryz.prog.info? 28).map (·.size) = some C.size := by rw [hC]; exact c_size x o
  have hold : (zA : Array Value).size = C.size := by rw [hC]; rfl
  have HZn := Lib.hid (heap_alloc_new w3 (.cells zA 28))
  obtain ⟨U3, hU⟩ : ∃ U3, U3 = (w3.alloc (.cells zA 28)).setRow w3.heap.size C := ⟨_, rfl⟩
  have bu : Below w3.heap.size w3 U3 := by rw [hU]; exact put_below w3 C
  obtain ⟨go, hh⟩ : ∃ go, go = w3.heap.size := ⟨_, rfl⟩
  have O4 : Hid (Hl U3 go x o) := Lib.hid (by rw [hU, hh, hC]; exact Hl.put L3.out)
  have S4 := Lib.hid (S3.out.on bu)
  rw [show x.v o = .agg C by rw [hC]]
  clear hC bu S3 L3
  go_upto_region 4 with (first
    | (refine wpList_store_rowTo rfl 28 (.tmp 5) (.tmp 23) rfl rfl w3.heap.size C rfl rfl 28 _ HZn.out hsz hold hone ?_; rw [← hU]))
  clear hU HZn hsz hold hone
  rw [← hh]
  clear hh
  go_wp2_with (refine wpList_load_part rfl 28 (.tmp 5) rfl go 0 rfl (x.c o).toList _ O4.out.bt.bt0 Tryz.underlying28 rfl attr_size (x.v o) rfl ?_)
  refine (acopy_calls x o U3 O4.out.li HS1.out).mono ?_
  rintro e w5 ⟨r, rfl, hC, hb⟩
  have hba := hb
  have S5 := Lib.hid (S4.out.on hb)
  have L5 := Lib.hid hC.lies
  have HAP0 := Lib.hid (Apt.of hC)
  have HSP0 := Lib.hid (SpA.of hC hba)
  clear hb hba hC
  obtain ⟨C, hC⟩ : ∃ C, C = x.c r := ⟨_, rfl⟩
  have hone : C.all (·.oneCell') = true := by rw [hC]; exact c_one x r
  have hsz : (Tryz.prog.info? 28).map (·.size) = some C.size := by rw [hC]; exact c_size x r
  have hold : (zA : Array Value).size = C.size := by rw [hC]; rfl
  have HZn := Lib.hid (heap_alloc_new w5 (.cells zA 28))
  obtain ⟨U5, hU⟩ : ∃ U5, U5 = (w5.alloc (.cells zA 28)).setRow w5.heap.size C := ⟨_, rfl⟩
  have bu : Below w5.heap.size w5 U5 := by rw [hU]; exact put_below w5 C
  obtain ⟨gc, hh⟩ : ∃ gc, gc = w5.heap.size := ⟨_, rfl⟩
  have O6 : Hid (Hl U5 gc x r) := Lib.hid (by rw [hU, hh, hC]; exact Hl.put L5.out)
  have HAP : Hid (Apt U3.heap.size gc r) := Lib.hid (by rw [hh]; exact HAP0.out)
  have HSP : Hid (SpA U3 U5 gc x r x.xs x.ac.us x.df.gs) := Lib.hid (by rw [hU, hh, hC]; exact HSP0.out)
  rw [show x.v r = .agg C by rw [hC]]
  clear hC bu HAP0 HSP0 O6 S5 L5
  go_upto_region 5 with (first
    | (refine wpList_store_rowTo rfl 28 (.tmp 6) (.tmp 25) rfl rfl w5.heap.size C rfl rfl 28 _ HZn.out hsz hold hone ?_; rw [← hU]))
  clear hU HZn hsz hold hone
  rw [← hh]
  clear hh
  obtain ⟨nx, hnx⟩ : ∃ nx, x.xs.length = nx := ⟨_, rfl⟩
  obtain ⟨nu, hnu⟩ : ∃ nu, x.ac.us.length = nu := ⟨_, rfl⟩
  obtain ⟨ng, hng⟩ : ∃ ng, x.df.gs.length = ng := ⟨_, rfl⟩
  have bx : nx ≤ 1099511627776 := by rw [← hnx]; exact HS1.out.xs
  have bu : nu ≤ 1099511627776 := by rw [← hnu]; exact HS1.out.ac.us
  have bg : ng ≤ 1099511627776 := by rw [← hng]; exact HS1.out.df.gs
  have NX := Lib.hid hnx
  have NU := Lib.hid hnu
  have NG := Lib.hid hng
  clear hnx hnu hng
  go_wp2_with (fail)
  go_loopw [7] (fun i wr => ∃ (k : Nat) (L : List Xt), i = .int .i64 k ∧ k ≤ nx ∧ Hid (SpA U3 wr gc x r L x.ac.us x.df.gs)) (fun i _ => nx - (intOf i).toNat)
  case atStart => exact ⟨0, _, rfl, by omega, HSP⟩
  case round =>
    obtain ⟨k, L, rfl, hk, hS⟩ := hrel
    have y18 := hS.out.box.c18
    rw [NX.out] at y18
    by_cases hkn : k < nx
    · obtain ⟨g, hA, cur, hcur⟩ := hS.out.xs.head (by rw [NX.out]; omega)
      obtain ⟨z, hz⟩ : ∃ z, L[k]? = some z := ⟨_, List.getElem?_eq_getElem (by rw [hS.out.xl, NX.out]; exact hkn)⟩
      have hcel := hS.out.xs.cel
      rw [hA] at hcel y18
      obtain ⟨b, o, hbo, _, hcx⟩ := hcel.xt (by rw [hS.out.xl, NX.out]; omega)
      injection hbo with hbo
      injection hbo with hb1 ho1
      subst hb1 ho1
      obtain ⟨r0, _⟩ := hcx k z hz
      simp only [Nat.zero_add] at r0
      have f0 := open_of hcur (k * 2)
      have HS2' := Lib.hid (hS.out.key HAP.out hA hz ⟨#[63]⟩)
      clear hcel hcur hcx
      go_wp2_with (fail)
      go_roundw
      case rel => exact ⟨k + 1, _, by go_num, by omega, HS2'⟩
      case measure => simp [intOf]; omega
    · obtain rfl : k = nx := by omega
      have HSP1 := hS
      clear HSP
      obtain ⟨X1, hX1⟩ : ∃ X1, X1 = L := ⟨_, rfl⟩
      rw [← hX1] at HSP1
      clear hX1 hS
      go_wp2_with (fail)
      clear y18
      go_loopw [8] (fun i wr => ∃ (k : Nat) (L : List Nm), i = .int .i64 k ∧ k ≤ nu ∧ Hid (SpA U3 wr gc x r X1 L x.df.gs)) (fun i _ => nu - (intOf i).toNat)
      case atStart => exact ⟨0, _, rfl, by omega, HSP1⟩
      case round =>
        obtain ⟨k, L, rfl, hk, hS⟩ := hrel
        have y6 := hS.out.box.c6
        rw [NU.out] at y6
        by_cases hkn : k < nu
        · obtain ⟨g, hA, cur, hcur⟩ := hS.out.us.head (by rw [NU.out]; omega)
          obtain ⟨z, hz⟩ : ∃ z, L[k]? = some z := ⟨_, List.getElem?_eq_getElem (by rw [hS.out.ul, NU.out]; exact hkn)⟩
          have hcel := hS.out.us.cel
          rw [hA] at hcel y6
          obtain ⟨r0, _⟩ := hcel.nm0 hz
          simp only [Nat.zero_add] at r0
          have f0 := open_of hcur (k * 2)
          have HS2' := Lib.hid (hS.out.user HAP.out hA hz ((z.id + 1) % 65536))
          clear hcel hcur
          go_wp2_with (fail)
          have e1 : IntKind.u16.wrap ((z.id : Int) + 1) = (((z.id + 1) % 65536 : Nat) : Int) := by rw [IntKind.wrap_u16]; omega
          go_roundw
          case rel => exact ⟨k + 1, _, by go_num, by omega, by rw [e1]; exact HS2'⟩
          case measure => simp [intOf]; omega
        · obtain rfl : k = nu := by omega
          have HSP2 := hS
          clear HSP1
          obtain ⟨L1, hL1⟩ : ∃ L1, L1 = L := ⟨_, rfl⟩
          rw [← hL1] at HSP2
          clear hL1 hS
          go_wp2_with (fail)
          clear y6
          go_loopw [9] (fun i wr => ∃ (k : Nat) (L : List Nm), i = .int .i64 k ∧ k ≤ ng ∧ Hid (SpA U3 wr gc x r X1 L1 L)) (fun i _ => ng - (intOf i).toNat)
          case atStart => exact ⟨0, _, rfl, by omega, HSP2⟩
          case round =>
            obtain ⟨k, L, rfl, hk, hS⟩ := hrel
            have y15 := hS.out.box.c15
            rw [NG.out] at y15
            by_cases hkn : k < ng
            · obtain ⟨g, hA, cur, hcur⟩ := hS.out.gs.head (by rw [NG.out]; omega)
              obtain ⟨z, hz⟩ : ∃ z, L[k]? = some z := ⟨_, List.getElem?_eq_getElem (by rw [hS.out.gl, NG.out]; exact hkn)⟩
              have hcel := hS.out.gs.cel
              rw [hA] at hcel y15
              obtain ⟨r0, _⟩ := hcel.nm0 hz
              simp only [Nat.zero_add] at r0
              have f0 := open_of hcur (k * 2)
              have HS2' := Lib.hid (hS.out.group HAP.out hA hz ((z.id + 1) % 65536))
              clear hcel hcur
              go_wp2_with (fail)
              have e1 : IntKind.u16.wrap ((z.id : Int) + 1) = (((z.id + 1) % 65536 : Nat) : Int) := by rw [IntKind.wrap_u16]; omega
              go_roundw
              case rel => exact ⟨k + 1, _, by go_num, by omega, by rw [e1]; exact HS2'⟩
              case measure => simp [intOf]; omega
            · obtain rfl : k = ng := by omega
              clear HSP2
              have Z6 := Lib.hid (S4.out.on hS.out.low)
              have O6 := Lib.hid (O4.out.on hS.out.low)
              clear hS HAP S4 O4
              go_wp2_with (first
                | (refine wpList_load_part rfl 28 (.tmp 5) rfl go 0 rfl (x.c o).toList _ O6.out.bt.bt0 Tryz.underlying28 rfl attr_size (x.v o) rfl ?_)
                | (refine wpList_load_part rfl 28 (.tmp 2) rfl w.heap.size 0 rfl (x.c p).toList _ Z6.out.one.bt0 Tryz.underlying28 rfl attr_size (x.v p) rfl ?_))
              have cs := rasame_calls x x o p wr O6.out.li Z6.out.l1 HS1.out HS1.out
              rw [asameB_self] at cs
              refine cs.mono ?_
              rintro e w7 ⟨rfl, hb⟩
              have Z7 := Lib.hid (Z6.out.on hb)
              have O7 := Lib.hid (O6.out.on hb)
              clear hb cs Z6 O6
              have ce := aencode_bad x o w7 O7.out.li HS1.out
              have ce2 := fun h => aencode_ok x o w7 O7.out.li h HX.out (HT.out.below Z7.out.be)
              have HC := Lib.hid ce
              have HC2 := Lib.hid ce2
              clear ce ce2
              obtain ⟨m, hm⟩ : ∃ m, amayB x = m := ⟨_, rfl⟩
              cases m
              case false =>
                have HM := Lib.hid hm
                clear hm
                go_wp2_with (refine wpList_load_part rfl 28 (.tmp 5) rfl go 0 rfl (x.c o).toList _ O7.out.bt.bt0 Tryz.underlying28 rfl attr_size (x.v o) rfl ?_)
                refine (HC.out HM.out).mono ?_
                rintro e w8 ⟨rfl, hb⟩
                have Z8 := Lib.hid (Z7.out.on hb)
                clear hb HC HC2 Z7 O7
                go_wp2_with (refine wpList_load_part rfl 28 (.tmp 3) rfl (w.heap.size + 1) 0 rfl (y.c q).toList _ Z8.out.two.bt0 Tryz.underlying28 rfl attr_size (y.v q) rfl ?_)
                refine (racopy_calls y q w8 Z8.out.l2 HS2.out).mono ?_
                rintro e w10 ⟨r2, rfl, hC, hb⟩
                have Z10 := Lib.hid (Z8.out.on hb)
                have L10 := Lib.hid hC.lies
                clear hb hC Z8
                have ce := aencode_bad y r2 w10 L10.out HS2.out
                have ce2 := fun h => aencode_ok y r2 w10 L10.out h HY.out (HT.out.below Z10.out.be)
                have HC := Lib.hid ce
                have HC2 := Lib.hid ce2
                clear ce ce2
                obtain ⟨m2, hm2⟩ : ∃ m2, amayB y = m2 := ⟨_, rfl⟩
                go_wp2_with (fail)
                cases m2
                case false =>
                  refine (HC.out hm2).mono ?_
                  rintro e w11 ⟨rfl, hb⟩
                  have Z11 := Lib.hid (Z10.out.on hb)
                  clear hb HC HC2 Z10 L10 hm2
                  go_wp2_with (fail)
                  refine (HAL.out _ Z11.out.be).mono ?_
                  rintro e w9 ⟨rfl, hb⟩
                  have S9 := Lib.hid (Z11.out.on hb)
                  clear hb
                  go_wp2_with (fail)
                  go_ret
                  exact ⟨rfl, S9.out.be⟩
                case true =>
                  refine (HC2.out hm2).mono ?_
                  rintro e w11 ⟨gf, cf, rfl, _, _, _, hb⟩
                  have Z11 := Lib.hid (Z10.out.on hb)
                  clear hb HC HC2 Z10 L10 hm2
                  go_wp2_with (fail)
                  refine (HAL.out _ Z11.out.be).mono ?_
                  rintro e w9 ⟨rfl, hb⟩
                  have S9 := Lib.hid (Z11.out.on hb)
                  clear hb
                  go_wp2_with (fail)
                  go_ret
                  exact ⟨rfl, S9.out.be⟩
              case true =>
              have HM := Lib.hid hm
              clear hm
              go_wp2_with (refine wpList_load_part rfl 28 (.tmp 5) rfl go 0 rfl (x.c o).toList _ O7.out.bt.bt0 Tryz.underlying28 rfl attr_size (x.v o) rfl ?_)
              refine (HC2.out HM.out).mono ?_
              rintro e w8 ⟨ge, ce, rfl, hke, _, hce, hb⟩
              have Z8 := Lib.hid (Z7.out.on hb)
              have K8 := Lib.hid hke
              clear hb hke HC HC2 Z7 O7
              go_wp2_with (refine wpList_load_part rfl 28 (.tmp 3) rfl (w.heap.size + 1) 0 rfl (y.c q).toList _ Z8.out.two.bt0 Tryz.underlying28 rfl attr_size (y.v q) rfl ?_)
              refine (racopy_calls y q w8 Z8.out.l2 HS2.out).mono ?_
              rintro e w10 ⟨r2, rfl, hC, hb⟩
              have Z10 := Lib.hid (Z8.out.on hb)
              have K10 : Hid (Blk 49 w10 ge (sealed (atL x))) := Lib.hid (K8.out.below hb K8.out.lt)
              have L10 := Lib.hid hC.lies
              clear hb hC Z8 K8
              have ce1 := aencode_bad y r2 w10 L10.out HS2.out
              have ce2 := fun h => aencode_ok y r2 w10 L10.out h HY.out (HT.out.below Z10.out.be)
              have HC := Lib.hid ce1
              have HC2 := Lib.hid ce2
              clear ce1 ce2
              obtain ⟨m2, hm2⟩ : ∃ m2, amayB y = m2 := ⟨_, rfl⟩
              go_wp2_with (fail)
              cases m2
              case false =>
                refine (HC.out hm2).mono ?_
                rintro e w11 ⟨rfl, hb⟩
                have Z11 := Lib.hid (Z10.out.on hb)
                clear hb HC HC2 Z10 L10 K10 hm2
                go_wp2_with (fail)
                refine (HAL.out _ Z11.out.be).mono ?_
                rintro e w9 ⟨rfl, hb⟩
                have S9 := Lib.hid (Z11.out.on hb)
                clear hb
                go_wp2_with (fail)
                go_ret
                exact ⟨rfl, S9.out.be⟩
              case true =>
              have HM2 := Lib.hid hm2
              clear hm2
              refine (HC2.out HM2.out).mono ?_
              rintro e w11 ⟨gf, cf, rfl, hkf, _, hcf, hb⟩
              have Z11 := Lib.hid (Z10.out.on hb)
              have K11 : Hid (Blk 49 w11 ge (sealed (atL x))) := Lib.hid (K10.out.below hb K10.out.lt)
              have M11 := Lib.hid hkf
              clear hb hkf HC HC2 Z10 L10 K10
              have HSM : Hid (sameV (sealed (atL x)) (sealed (atL y)) = asameB x y) := Lib.hid (by
                by_cases e : x = y
                · subst e
                  rw [sameV_refl, asameB_self]
                · rw [asameB_no e]
                  exact decide_eq_false fun h => e (atL_inj (fit_of HM.out HX.out) (fit_of HM2.out HY.out) h))
              obtain ⟨le, hle⟩ : ∃ le, le = sealed (atL x) := ⟨_, rfl⟩
              obtain ⟨lf, hlf⟩ : ∃ lf, lf = sealed (atL y) := ⟨_, rfl⟩
              rw [← hle, ← hlf] at HSM
              rw [← hle] at K11
              rw [← hlf] at M11
              have le32 : le.length = 32 := by rw [hle]; exact sealed_len x
              have lf32 : lf.length = 32 := by rw [hlf]; exact sealed_len y
              have HSC : Hid (∀ u, Row u (some ⟨ge, 0, none⟩) le → Row u (some ⟨gf, 0, none⟩) lf → Calls Tryz.prog 19 #[.slice (some ⟨ge, 0, none⟩) 32 ce, .slice (some ⟨gf, 0, none⟩) 32 cf] u fun e w' => e = .returned (.bool (asameB x y)) ∧ Below u.heap.size u w') := Lib.hid (fun u h1 h2 => by
                have c := same_calls (some ⟨ge, 0, none⟩) (some ⟨gf, 0, none⟩) le lf ce cf u h1 h2 (by rw [le32]; decide) (by rw [lf32]; decide)
                rw [le32, lf32, HSM.out] at c
                exact c.mono fun e w' ⟨h3, mm, h4⟩ => ⟨h3, by rw [h4]; exact below_drewN (Below.refl _ _) mm⟩)
              clear hle hlf le32 lf32 HSM HM HM2
              have y0 := Z11.out.one.c0
              have v0 := Z11.out.two.c0
              have y1 := Z11.out.one.c1
              have v1 := Z11.out.two.c1
              have y2 := Z11.out.one.c2
              have v2 := Z11.out.two.c2
              have y10 := Z11.out.one.c10
              have v10 := Z11.out.two.c10
              by_cases ebi : x.bi = y.bi
              case neg =>
                have HV := Lib.hid (asameB_no (x := x) (y := y) (by rintro rfl; exact ebi rfl))
                have dbi : ((x.bi : Int) == (y.bi : Int)) = false := by rw [beq_eq_false_iff_ne]; omega
                clear ebi
                go_wp2_with (fail)
                refine (HSC.out _ K11.out.row M11.out.row).mono ?_
                rintro e w20 ⟨rfl, hb⟩
                rw [HV.out]
                have Z20 := Lib.hid (Z11.out.on hb)
                clear hb
                go_wp2_with (fail)
                refine (HAL.out _ Z20.out.be).mono ?_
                rintro e w9 ⟨rfl, hb⟩
                have S9 := Lib.hid (Z20.out.on hb)
                clear hb
                go_wp2_with (fail)
                go_ret
                exact ⟨rfl, S9.out.be⟩
              case pos =>
              have dbi : ((x.bi : Int) == (y.bi : Int)) = true := by rw [beq_iff_eq]; omega
              have Ebi := Lib.hid ebi
              clear ebi
              by_cases eui : x.ui = y.ui
              case neg =>
                have HV := Lib.hid (asameB_no (x := x) (y := y) (by rintro rfl; exact eui rfl))
                have dui : ((x.ui : Int) == (y.ui : Int)) = false := by rw [beq_eq_false_iff_ne]; omega
                clear eui
                go_wp2_with (fail)
                refine (HSC.out _ K11.out.row M11.out.row).mono ?_
                rintro e w20 ⟨rfl, hb⟩
                rw [HV.out]
                have Z20 := Lib.hid (Z11.out.on hb)
                clear hb
                go_wp2_with (fail)
                refine (HAL.out _ Z20.out.be).mono ?_
                rintro e w9 ⟨rfl, hb⟩
                have S9 := Lib.hid (Z20.out.on hb)
                clear hb
                go_wp2_with (fail)
                go_ret
                exact ⟨rfl, S9.out.be⟩
              case pos =>
              have dui : ((x.ui : Int) == (y.ui : Int)) = true := by rw [beq_iff_eq]; omega
              have Eui := Lib.hid eui
              clear eui
              by_cases egi : x.gi = y.gi
              case neg =>
                have HV := Lib.hid (asameB_no (x := x) (y := y) (by rintro rfl; exact egi rfl))
                have dgi : ((x.gi : Int) == (y.gi : Int)) = false := by rw [beq_eq_false_iff_ne]; omega
                clear egi
                go_wp2_with (fail)
                refine (HSC.out _ K11.out.row M11.out.row).mono ?_
                rintro e w20 ⟨rfl, hb⟩
                rw [HV.out]
                have Z20 := Lib.hid (Z11.out.on hb)
                clear hb
                go_wp2_with (fail)
                refine (HAL.out _ Z20.out.be).mono ?_
                rintro e w9 ⟨rfl, hb⟩
                have S9 := Lib.hid (Z20.out.on hb)
                clear hb
                go_wp2_with (fail)
                go_ret
                exact ⟨rfl, S9.out.be⟩
              case pos =>
              have dgi : ((x.gi : Int) == (y.gi : Int)) = true := by rw [beq_iff_eq]; omega
              have Egi := Lib.hid egi
              clear egi
              by_cases ehd : x.hd = y.hd
              case neg =>
                have HV := Lib.hid (asameB_no (x := x) (y := y) (by rintro rfl; exact ehd rfl))
                have dhd : (x.hd == y.hd) = false := by rw [beq_eq_false_iff_ne]; exact ehd
                clear ehd
                go_wp2_with (fail)
                refine (HSC.out _ K11.out.row M11.out.row).mono ?_
                rintro e w20 ⟨rfl, hb⟩
                rw [HV.out]
                have Z20 := Lib.hid (Z11.out.on hb)
                clear hb
                go_wp2_with (fail)
                refine (HAL.out _ Z20.out.be).mono ?_
                rintro e w9 ⟨rfl, hb⟩
                have S9 := Lib.hid (Z20.out.on hb)
                clear hb
                go_wp2_with (fail)
                go_ret
                exact ⟨rfl, S9.out.be⟩
              case pos =>
              have dhd : (x.hd == y.hd) = true := by rw [beq_iff_eq]; exact ehd
              have EHD := Lib.hid ehd
              clear ehd
              go_wp2_with (first
                | (refine wpList_load_part rfl 25 (.tmp 123) rfl w.heap.size 3 rfl (x.ac.c p.p).toList _ Z11.out.one.ac Tryz.underlying25 rfl acl_size (x.ac.v p.p) rfl ?_)
                | (refine wpList_load_part rfl 25 (.tmp 125) rfl (w.heap.size + 1) 3 rfl (y.ac.c q.p).toList _ Z11.out.two.ac Tryz.underlying25 rfl acl_size (y.ac.v q.p) rfl ?_))
              refine (rlsame_calls x.ac y.ac p.p q.p w11 Z11.out.l1.ac Z11.out.l2.ac HS1.out.ac HS2.out.ac).mono ?_
              rintro e w12 ⟨rfl, hb⟩
              have Z12 := Lib.hid (Z11.out.on hb)
              have K12 : Hid (Blk 49 w12 ge le) := Lib.hid (K11.out.below hb K11.out.lt)
              have M12 : Hid (Blk 49 w12 gf lf) := Lib.hid (M11.out.below hb M11.out.lt)
              clear hb y0 y1 y2 v0 v1 v2 y10 v10 Z11 K11 M11 dbi dui dgi dhd
              by_cases eac : x.ac = y.ac
              case neg =>
                have HV := Lib.hid (asameB_no (x := x) (y := y) (by rintro rfl; exact eac rfl))
                have sd := sameB_no eac
                rw [sd]
                clear eac sd
                go_wp2_with (fail)
                refine (HSC.out _ K12.out.row M12.out.row).mono ?_
                rintro e w20 ⟨rfl, hb⟩
                rw [HV.out]
                have Z20 := Lib.hid (Z12.out.on hb)
                clear hb
                go_wp2_with (fail)
                refine (HAL.out _ Z20.out.be).mono ?_
                rintro e w9 ⟨rfl, hb⟩
                have S9 := Lib.hid (Z20.out.on hb)
                clear hb
                go_wp2_with (fail)
                go_ret
                exact ⟨rfl, S9.out.be⟩
              case pos =>
              have sd := sameB_iff.2 eac
              rw [sd]
              have EAC := Lib.hid eac
              clear eac sd
              go_wp2_with (first
                | (refine wpList_load_part rfl 25 (.tmp 130) rfl w.heap.size 11 rfl (x.df.c p.q).toList _ Z12.out.one.df Tryz.underlying25 rfl acl_size (x.df.v p.q) rfl ?_)
                | (refine wpList_load_part rfl 25 (.tmp 132) rfl (w.heap.size + 1) 11 rfl (y.df.c q.q).toList _ Z12.out.two.df Tryz.underlying25 rfl acl_size (y.df.v q.q) rfl ?_))
              refine (rlsame_calls x.df y.df p.q q.q w12 Z12.out.l1.df Z12.out.l2.df HS1.out.df HS2.out.df).mono ?_
              rintro e w13 ⟨rfl, hb⟩
              have Z13 := Lib.hid (Z12.out.on hb)
              have K13 : Hid (Blk 49 w13 ge le) := Lib.hid (K12.out.below hb K12.out.lt)
              have M13 : Hid (Blk 49 w13 gf lf) := Lib.hid (M12.out.below hb M12.out.lt)
              clear hb Z12 K12 M12
              by_cases edf : x.df = y.df
              case neg =>
                have HV := Lib.hid (asameB_no (x := x) (y := y) (by rintro rfl; exact edf rfl))
                have sd := sameB_no edf
                rw [sd]
                clear edf sd
                go_wp2_with (fail)
                refine (HSC.out _ K13.out.row M13.out.row).mono ?_
                rintro e w20 ⟨rfl, hb⟩
                rw [HV.out]
                have Z20 := Lib.hid (Z13.out.on hb)
                clear hb
                go_wp2_with (fail)
                refine (HAL.out _ Z20.out.be).mono ?_
                rintro e w9 ⟨rfl, hb⟩
                have S9 := Lib.hid (Z20.out.on hb)
                clear hb
                go_wp2_with (fail)
                go_ret
                exact ⟨rfl, S9.out.be⟩
              case pos =>
              have sd := sameB_iff.2 edf
              rw [sd]
              have HV0 : Hid (asameB x y = xrowsB x.xs y.xs) := Lib.hid (by
                by_cases ex : x.xs = y.xs
                · rw [xrowsB_iff.2 ex, asameB_iff.2 (at_ext Ebi.out Eui.out Egi.out EAC.out EHD.out edf ex)]
                · rw [xrowsB_no ex, asameB_no (by rintro rfl; exact ex rfl)])
              clear edf sd
              have y18 := Z13.out.one.c18
              have v18 := Z13.out.two.c18
              go_wp2_with (fail)
              refine (samex_calls p.X q.X x.xs y.xs p.n q.n w13 Z13.out.l1.xs Z13.out.l2.xs HS1.out.xs HS2.out.xs).mono ?_
              rintro e w14 ⟨rfl, mm, hw14⟩
              have hb : Below w13.heap.size w13 w14 := by rw [hw14]; exact below_drewN (Below.refl _ _) mm
              have Z14 := Lib.hid (Z13.out.on hb)
              have K14 : Hid (Blk 49 w14 ge le) := Lib.hid (K13.out.below hb K13.out.lt)
              have M14 : Hid (Blk 49 w14 gf lf) := Lib.hid (M13.out.below hb M13.out.lt)
              clear hb hw14 y18 v18 Z13 K13 M13
              obtain ⟨xb, hxb⟩ : ∃ xb, xrowsB x.xs y.xs = xb := ⟨_, rfl⟩
              have HV : Hid (asameB x y = xb) := Lib.hid (HV0.out.trans hxb)
              rw [hxb]
              clear hxb HV0
              cases xb
              case true =>
                go_wp2_with (fail)
                refine (HSC.out _ K14.out.row M14.out.row).mono ?_
                rintro e w20 ⟨rfl, hb⟩
                rw [HV.out]
                have Z20 := Lib.hid (Z14.out.on hb)
                clear hb
                go_wp2_with (fail)
                refine (HAL.out _ Z20.out.be).mono ?_
                rintro e w9 ⟨rfl, hb⟩
                have S9 := Lib.hid (Z20.out.on hb)
                clear hb
                go_wp2_with (fail)
                go_ret
                exact ⟨rfl, S9.out.be⟩
              case false =>
                go_wp2_with (fail)
                refine (HSC.out _ K14.out.row M14.out.row).mono ?_
                rintro e w20 ⟨rfl, hb⟩
                rw [HV.out]
                have Z20 := Lib.hid (Z14.out.on hb)
                clear hb
                go_wp2_with (fail)
                refine (HAL.out _ Z20.out.be).mono ?_
                rintro e w9 ⟨rfl, hb⟩
                have S9 := Lib.hid (Z20.out.on hb)
                clear hb
                go_wp2_with (fail)
                go_ret
                exact ⟨rfl, S9.out.be⟩
end Go.Proofs.YtlejmpinfbmccaaGreatDoor
