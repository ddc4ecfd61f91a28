/- AttrBack: whatever it is called with, it hands back true. -/
import Derived.Test.YtlejmpinfbmccaaGreatDoorLw
import Derived.Test.YtlejmpinfbmccaaGreatDoorBk
import Derived.Test.YtlejmpinfbmccaaGreatDoorTurnMath
import Derived.Test.YtlejmpinfbmccaaGreatDoorMemT
import Derived.Laws.BitsAllLaws
set_option linter.unusedSimpArgs false
set_option linter.unusedVariables false
set_option linter.unusedSimpArgs false
set_option linter.unusedVariables false
namespace Go.Proofs.YtlejmpinfbmccaaGreatDoor
open Go.RowKit SumMath WordMath
theorem flip_bit (x b : Nat) (hx : x < 18446744073709551616) (hb : b < 64) : bits .xor .u64 (x : Int) (IntKind.u64.wrap ((2 : Int) ^ b)) = ((x ^^^ 2 ^ b : Nat) : Int) := by
  have h : 2 ^ b < 18446744073709551616 := by
    have := Nat.pow_lt_pow_right (a := 2) (by decide) hb
    simpa using this
  have e : IntKind.u64.wrap ((2 : Int) ^ b) = ((2 ^ b : Nat) : Int) := by
    have e2 : ((2 : Int) ^ b) = ((2 ^ b : Nat) : Int) := by simp
    rw [e2, IntKind.wrap_u64]; exact Int.emod_eq_of_lt (Int.natCast_nonneg _) (Int.ofNat_lt.2 h)
  rw [e, u64_xor_nat _ _ hx h]
/-- Which words with bits turned are attributes. -/
theorem bad_turned {x : At} {Y : List Nat} {k t : Nat} (hx : amayB x = true) (hn : ANum x) (h : Turned (sealed (atL x)) k t 32 Y) (ht : t < 4294967296) :
    (badA Y = none ∧ t = 0) ∨ (∃ j, badA Y = some j ∧ t ≠ 0) := by
  by_cases h0 : t = 0
  · subst h0
    rw [h.same (sealed_wd (fit_of hx hn))]
    exact .inl ⟨(dec_back hx hn).1, rfl⟩
  · have hb := bad_of_open (h.told (atL_wd (fit_of hx hn)) ht h0)
    cases hB : badA Y with
    | none => exact absurd hB hb
    | some j => exact .inr ⟨j, rfl, h0⟩
set_option maxRecDepth 100000 in
set_option maxHeartbeats 8000000 in
theorem aback_law (n : Sn) (x : At) (p : ALie) (at_ tu : Int) (A : Option Addr) (c : Nat) (l : List Nat) (w : World) (h : ALies w x p) (hs : ABg x) (hx : ANum x) (a0 : 0 ≤ at_ ∧ at_ < 65536) (t0 : 0 ≤ tu ∧ tu < 4294967296)
    (hr : Row w A l) (hl : Wd l) (hlen : l.length ≤ 9223372036854775807) (hcap : l.length ≤ c) (hT : TabAt w) (hE : ErrAt w) (hN : SnAt w n) :
    Calls Tryz.prog 6 #[x.v p, .int .u16 at_, .int .u32 tu, .slice A l.length c] w fun e w' => e = .returned (.bool true) ∧ Below w.heap.size w w' := by
  obtain ⟨ka, rfl⟩ := Int.eq_ofNat_of_zero_le a0.1
  obtain ⟨t, rfl⟩ := Int.eq_ofNat_of_zero_le t0.1
  have ha : ka < 65536 := by omega
  have ht : t < 4294967296 := by omega
  clear a0 t0
  obtain ⟨i0, hi0, hz0, hs0, hb0⟩ := info_parts u64_info
  have HI := Lib.hid hi0
  have HZ := Lib.hid hz0
  have HS := Lib.hid hs0
  have HB := Lib.hid hb0
  obtain ⟨V, hV⟩ : ∃ V, V = w.alloc (.cells (x.c p) 28) := ⟨_, rfl⟩
  have hbV : Below w.heap.size w V := by rw [hV]; exact (Below.refl _ _).alloc (Nat.le_refl _) _
  have B0 := Lib.hid hbV
  have X0 : Hid (Hl V w.heap.size x p) := Lib.hid (by rw [hV]; exact Hl.new h)
  have R0 := Lib.hid (hr.below hbV)
  have hal : ∀ W : World, Below w.heap.size w W → Calls Tryz.prog 9 #[] W fun e w' => e = .returned (.bool true) ∧ Below W.heap.size W w' := fun W hB => alive_calls n W (hT.below hB) (hE.below hB) (hN.below hB)
  have HAL := Lib.hid hal
  have HT := Lib.hid hT
  have HN := Lib.hid hN
  have HX := Lib.hid hx
  have HWD := Lib.hid hl
  have HTT := Lib.hid ht
  have cl := alarge_calls x p V X0.out.li hs
  obtain ⟨lg, hlg⟩ : ∃ lg, largeB x = lg := ⟨_, rfl⟩
  rw [hlg] at cl
  have HC := Lib.hid cl
  have HLG := Lib.hid hlg
  clear h hs hx hT hE hN hal cl hlg hbV hr hl hi0 hz0 hs0 hb0 ht
  go_enter Tryz.func6, Tryz.ntmps6
  go_upto_region 1 with (fail)
  rw [← hV]
  clear hV
  go_wp2_with (refine wpList_load_part rfl 28 (.tmp 4) rfl w.heap.size 0 rfl (x.c p).toList _ X0.out.bt.bt0 Tryz.underlying28 rfl attr_size (x.v p) rfl ?_)
  refine HC.out.mono ?_
  rintro e w1 ⟨rfl, hb⟩
  have B1 := Lib.hid (B0.out.trans (hb.mono B0.out.size))
  have X1 := Lib.hid (X0.out.on hb)
  have R1 := Lib.hid (R0.out.below hb)
  clear hb HC B0 X0 R0
  cases lg
  case true =>
    go_wp2_with (fail)
    refine (HAL.out _ B1.out).mono ?_
    rintro e w9 ⟨rfl, hb⟩
    have B9 := Lib.hid (B1.out.trans (hb.mono B1.out.size))
    clear hb
    go_wp2_with (fail)
    go_ret
    exact ⟨rfl, B9.out⟩
  case false =>
  obtain ⟨hsm, hks⟩ := large_no HLG.out
  have HSM := Lib.hid hsm
  clear hsm hks HLG
  by_cases h100 : 100 < l.length
  case pos =>
    have d1 : decide ((100 : Int) < (l.length : Int)) = true := by rw [decide_eq_true_eq]; omega
    go_wp2_with (fail)
    clear d1
    refine (HAL.out _ B1.out).mono ?_
    rintro e w9 ⟨rfl, hb⟩
    have B9 := Lib.hid (B1.out.trans (hb.mono B1.out.size))
    clear hb
    go_wp2_with (fail)
    go_ret
    exact ⟨rfl, B9.out⟩
  case neg =>
  have d1 : decide ((100 : Int) < (l.length : Int)) = false := by rw [decide_eq_false_iff_not]; omega
  go_wp2_with (at_builtin; refine wpList_cloneC rfl (.const (.slice none 0 0)) (.tmp 28) 36 rfl 49 i0 Tryz.underlying36 HI.out HZ.out HS.out HB.out A l c rfl rfl R1.out (by omega) ?_; intro A1 c1 w2 hr1 hf1 hb1 hblk1 hc1)
  have B2 := Lib.hid (B1.out.trans (hb1.mono B1.out.size))
  have X2 := Lib.hid (X1.out.on hb1)
  have R2 := Lib.hid (R1.out.below hb1)
  have cd := decode_calls A1 l c1 n w2 hr1 HWD.out hc1 (HN.out.below B2.out) (HT.out.below B2.out)
  refine cd.mono ?_
  rintro e w3 ⟨q, rfl, hal, haf, hb⟩
  have B3 := Lib.hid (B2.out.trans (hb.mono B2.out.size))
  have X3 := Lib.hid (X2.out.on hb)
  have R3 := Lib.hid (R2.out.below hb)
  have L3 := Lib.hid hal
  clear hb cd hr1 hf1 hb1 hblk1 hc1 hal haf B1 X1 R1 B2 X2 R2 d1
  obtain ⟨y, hy⟩ : ∃ y, attA l = y := ⟨_, rfl⟩
  rw [hy] at L3 ⊢
  obtain ⟨b, hbd⟩ : ∃ b, badA l = b := ⟨_, rfl⟩
  rw [hbd]
  have HY := Lib.hid hy
  have HBD := Lib.hid hbd
  clear hy hbd
  obtain ⟨E0, hE0⟩ : ∃ E0, errVA n b = E0 := ⟨_, rfl⟩
  rw [hE0]
  have HE0 := Lib.hid hE0
  clear hE0
  obtain ⟨C, hC⟩ : ∃ C, C = y.c q := ⟨_, rfl⟩
  have hone : C.all (·.oneCell') = true := by rw [hC]; exact c_one y q
  have hsz : (Tryz.prog.info? 28).map (·.size) = some C.size := by rw [hC]; exact c_size y q
  have hold : (zA : Array Value).size = C.size := by rw [hC]; rfl
  have HZn := Lib.hid (heap_alloc_new w3 (.cells zA 28))
  obtain ⟨U3, hU⟩ : ∃ U3, U3 = (w3.alloc (.cells zA 28)).setRow w3.heap.size C := ⟨_, rfl⟩
  have bu : Below w3.heap.size w3 U3 := by rw [hU]; exact put_below w3 C
  obtain ⟨g3, hh⟩ : ∃ g3, g3 = w3.heap.size := ⟨_, rfl⟩
  have O3 : Hid (Hl U3 g3 y q) := Lib.hid (by rw [hU, hh, hC]; exact Hl.put L3.out)
  have B4 := Lib.hid (B3.out.trans (bu.mono B3.out.size))
  have X4 := Lib.hid (X3.out.on bu)
  have R4 := Lib.hid (R3.out.below bu)
  rw [show y.v q = .agg C by rw [hC]]
  clear hC bu B3 X3 R3 L3
  go_upto_region 4 with (first
    | (refine wpList_store_rowTo rfl 28 (.tmp 9) (.tmp 31) rfl rfl w3.heap.size C rfl rfl 28 _ HZn.out hsz hold hone ?_; rw [← hU]))
  clear hU HZn hsz hold hone
  rw [← hh]
  clear hh
  cases b
  case some j =>
    obtain ⟨V0, hV0⟩ : ∃ V0, V0 = whyV n j := ⟨_, rfl⟩
    have hE1 : E0 = .iface 78 (.agg #[V0]) := by rw [hV0, ← HE0.out]; rfl
    subst hE1
    clear hV0 HE0 R4
    go_upto_region 8 with (fail)
    go_wp2_with (refine wpList_load_part rfl 28 (.tmp 4) rfl w.heap.size 0 rfl (x.c p).toList _ X4.out.bt.bt0 Tryz.underlying28 rfl attr_size (x.v p) rfl ?_)
    refine (racopy_calls x p U3 X4.out.li HSM.out).mono ?_
    rintro e u1 ⟨r, rfl, hC2, hb⟩
    have D1 := Lib.hid (B4.out.trans (hb.mono B4.out.size))
    have Y1 := Lib.hid (X4.out.on hb)
    have M1 := Lib.hid hC2.lies
    clear hb hC2 B4 X4
    have ce := aencode_bad x r u1 M1.out HSM.out
    have ce2 := fun h => aencode_ok x r u1 M1.out h HX.out (HT.out.below D1.out)
    have HC := Lib.hid ce
    have HC2 := Lib.hid ce2
    clear ce ce2
    obtain ⟨m, hm⟩ : ∃ m, amayB x = m := ⟨_, rfl⟩
    cases m
    case false =>
      have HM := Lib.hid hm
      clear hm
      go_wp2_with (fail)
      refine (HC.out HM.out).mono ?_
      rintro e u2 ⟨rfl, hb⟩
      have D2 := Lib.hid (D1.out.trans (hb.mono D1.out.size))
      have Y2 := Lib.hid (Y1.out.on hb)
      clear hb HC HC2 D1 Y1 M1
      go_wp2_with (refine wpList_load_part rfl 28 (.tmp 4) rfl w.heap.size 0 rfl (x.c p).toList _ Y2.out.bt.bt0 Tryz.underlying28 rfl attr_size (x.v p) rfl ?_)
      refine (racopy_calls x p u2 Y2.out.li HSM.out).mono ?_
      rintro e u3 ⟨r3, rfl, hC3, hb⟩
      have D3 := Lib.hid (D2.out.trans (hb.mono D2.out.size))
      have ck := acheck_calls x r3 u3 hC3.lies HSM.out
      rw [HM.out] at ck
      have HC := Lib.hid ck
      clear hb hC3 D2 Y2 ck
      go_wp2_with (fail)
      refine HC.out.mono ?_
      rintro e u4 ⟨rfl, hb⟩
      rw [show ckN false = 622 from rfl]
      have D4 := Lib.hid (D3.out.trans (hb.mono D3.out.size))
      clear hb D3 HC
      go_wp2_with (fail)
      refine (HAL.out _ D4.out).mono ?_
      rintro e w9 ⟨rfl, hb⟩
      have B9 := Lib.hid (D4.out.trans (hb.mono D4.out.size))
      clear hb
      go_wp2_with (fail)
      go_ret
      exact ⟨rfl, B9.out⟩
    case true =>
    have HM := Lib.hid hm
    clear hm
    go_wp2_with (fail)
    refine (HC2.out HM.out).mono ?_
    rintro e u2 ⟨g, cg, rfl, hk, hg, hcg, hb⟩
    have HG : Hid (w.heap.size ≤ g) := Lib.hid (Nat.le_trans D1.out.size hg)
    have D2 := Lib.hid (D1.out.trans (hb.mono D1.out.size))
    have Y2 := Lib.hid (Y1.out.on hb)
    clear HC HC2 D1 Y1 M1 hg
    obtain ⟨lx, hlx⟩ : ∃ lx, lx = sealed (atL x) := ⟨_, rfl⟩
    rw [← hlx] at hk
    have K2 := Lib.hid hk
    have hl32 : lx.length = 32 := by rw [hlx]; exact sealed_len x
    have HL32 := Lib.hid hl32
    have HLX := Lib.hid hlx
    have HWX : Hid (Wd lx) := Lib.hid (by rw [hlx]; exact sealed_wd (fit_of HM.out HX.out))
    have hrow := hk.row
    clear hb hk hlx
    go_wp2_with (at_builtin; refine wpList_cloneC rfl (.const (.slice none 0 0)) (.tmp 70) 36 rfl 49 i0 Tryz.underlying36 HI.out HZ.out HS.out HB.out (some ⟨g, 0, none⟩) lx cg rfl (by rw [hl32]; rfl) hrow (by rw [hl32]; decide) ?_; intro A1 c1 u3 hr1 hf1 hb1 hblk1 hc1)
    rw [HL32.out] at hc1
    have D3 := Lib.hid (D2.out.trans (hb1.mono D2.out.size))
    have Y3 := Lib.hid (Y2.out.on hb1)
    have K3 : Hid (Blk 49 u3 g lx) := Lib.hid (K2.out.below hb1 K2.out.lt)
    have cd := decode_calls A1 lx c1 n u3 hr1 HWX.out (by rw [HL32.out]; exact hc1) (HN.out.below D3.out) (HT.out.below D3.out)
    have hdb : badA lx = none ∧ attA lx = x := by rw [HLX.out]; exact dec_back HM.out HX.out
    rw [hdb.1, hdb.2, HL32.out] at cd
    have HCD := Lib.hid cd
    clear hrow hr1 hf1 hb1 hblk1 hc1 cd hdb D2 Y2 K2 hl32
    refine HCD.out.mono ?_
    rintro e u4 ⟨r4, rfl, hal, haf, hb⟩
    rw [show errVA n none = .nilIface from rfl]
    have D4 := Lib.hid (D3.out.trans (hb.mono D3.out.size))
    have Y4 := Lib.hid (Y3.out.on hb)
    have K4 : Hid (Blk 49 u4 g lx) := Lib.hid (K3.out.below hb K3.out.lt)
    have L4 := Lib.hid hal
    clear hb HCD hal haf D3 Y3 K3
    obtain ⟨C, hC⟩ : ∃ C, C = x.c r4 := ⟨_, rfl⟩
    have hone : C.all (·.oneCell') = true := by rw [hC]; exact c_one x r4
    have hsz : (Tryz.prog.info? 28).map (·.size) = some C.size := by rw [hC]; exact c_size x r4
    have hold : (zA : Array Value).size = C.size := by rw [hC]; rfl
    have HZn := Lib.hid (heap_alloc_new u4 (.cells zA 28))
    obtain ⟨U5, hU⟩ : ∃ U5, U5 = (u4.alloc (.cells zA 28)).setRow u4.heap.size C := ⟨_, rfl⟩
    have bu : Below u4.heap.size u4 U5 := by rw [hU]; exact put_below u4 C
    obtain ⟨g5, hh⟩ : ∃ g5, g5 = u4.heap.size := ⟨_, rfl⟩
    have O5 : Hid (Hl U5 g5 x r4) := Lib.hid (by rw [hU, hh, hC]; exact Hl.put L4.out)
    have D5 := Lib.hid (D4.out.trans (bu.mono D4.out.size))
    have Y5 := Lib.hid (Y4.out.on bu)
    have K5 := Lib.hid ((K4.out.below bu K4.out.lt : Blk 49 U5 g lx))
    rw [show x.v r4 = .agg C by rw [hC]]
    clear hC bu D4 Y4 K4 L4
    go_upto_region 12 with (first
      | (refine wpList_store_rowTo rfl 28 (.tmp 15) (.tmp 73) rfl rfl u4.heap.size C rfl rfl 28 _ HZn.out hsz hold hone ?_; rw [← hU]))
    clear hU HZn hsz hold hone
    rw [← hh]
    clear hh
    go_wp2_with (first
      | (refine wpList_load_part rfl 28 (.tmp 15) rfl g5 0 rfl (x.c r4).toList _ O5.out.bt.bt0 Tryz.underlying28 rfl attr_size (x.v r4) rfl ?_)
      | (refine wpList_load_part rfl 28 (.tmp 4) rfl w.heap.size 0 rfl (x.c p).toList _ Y5.out.bt.bt0 Tryz.underlying28 rfl attr_size (x.v p) rfl ?_))
    have cs := rasame_calls x x r4 p U5 O5.out.li Y5.out.li HSM.out HSM.out
    rw [asameB_self] at cs
    refine cs.mono ?_
    rintro e u6 ⟨rfl, hb⟩
    have D6 := Lib.hid (D5.out.trans (hb.mono D5.out.size))
    have K6 : Hid (Blk 49 u6 g lx) := Lib.hid (K5.out.below hb K5.out.lt)
    clear hb cs D5 Y5 K5 O5
    obtain ⟨k, hk, hk2⟩ : ∃ k : Nat, (ka : Int) % 2017 = (k : Int) ∧ k + 32 ≤ 2048 := ⟨ka % 2017, by omega, by omega⟩
    have hkt : (ka : Int).tmod 2017 = (k : Int) := by rw [Int.tmod_eq_emod_of_nonneg (Int.natCast_nonneg _)]; exact hk
    go_wp2_with (fail)
    clear hk hkt
    go_loopw [18] (fun i wr => ∃ (j : Nat) (Y : List Nat), i = .int .i64 j ∧ j ≤ 32 ∧ Hid (Turned lx k t j Y) ∧ Hid (Blk 49 wr g Y) ∧ Hid (Below w.heap.size w wr)) (fun i _ => 32 - (intOf i).toNat)
    case atStart => exact ⟨0, _, rfl, by omega, Lib.hid (Turned.zero HWX.out k t), K6, D6⟩
    case round =>
      obtain ⟨j, Y, rfl, hj, hTu, hBk, hBl⟩ := hrel
      clear K6 D6
      have hlen2 := hTu.out.len
      rw [HL32.out] at hlen2
      by_cases hj32 : j < 32
      · by_cases hbit : t / 2 ^ j % 2 = 1
        · have hI : (k + j) / 64 < Y.length := by omega
          have hI8 : (k + j) / 64 < 32 := by omega
          have hI8' : ((k : Int) + (j : Int)) / 64 < 32 := by omega
          have hcl := hBk.out.cell _ hI
          have hfz := hBk.out.frozen ((k + j) / 64)
          have hwd := hTu.out.wd ((k + j) / 64)
          have ht2 := Lib.hid (hTu.out.turn hbit (by rw [HL32.out]; omega))
          have hset := Lib.hid (hBk.out.set ((k + j) / 64) (Y.getD ((k + j) / 64) 0 ^^^ 2 ^ ((k + j) % 64)))
          have hb1 : (((t : Int) / 2 ^ j).tmod 2 == 1) = true := by
            rw [beq_iff_eq]
            have : ((t : Int) / 2 ^ j) = ((t / 2 ^ j : Nat) : Int) := by simp
            rw [this, Int.tmod_eq_emod_of_nonneg (Int.natCast_nonneg _)]; omega
          clear hbit hI hlen2
          generalize Y.getD ((k + j) / 64) 0 = xv at *
          go_wp2_with (fail)
          go_roundw
          case rel =>
            rw [flip_bit xv _ hwd (Nat.mod_lt _ (by decide))]
            exact ⟨j + 1, _, by go_num, by omega, ht2, hset, Lib.hid (hBl.out.setCell (p := ⟨g, (k + j) / 64, none⟩) HG.out _)⟩
          case measure => simp [intOf]; omega
        · have ht2 := Lib.hid (hTu.out.skip hbit)
          have hb1 : (((t : Int) / 2 ^ j).tmod 2 == 1) = false := by
            rw [beq_eq_false_iff_ne]
            have : ((t : Int) / 2 ^ j) = ((t / 2 ^ j : Nat) : Int) := by simp
            rw [this, Int.tmod_eq_emod_of_nonneg (Int.natCast_nonneg _)]; omega
          clear hbit hlen2
          go_wp2_with (fail)
          go_roundw
          case rel => exact ⟨j + 1, _, by go_num, by omega, ht2, hBk, hBl⟩
          case measure => simp [intOf]; omega
      · obtain rfl : j = 32 := by omega
        have hbt := bad_turned HM.out HX.out (by rw [← HLX.out]; exact hTu.out) HTT.out
        have HBT := Lib.hid hbt
        have cd := decode_calls (some ⟨g, 0, none⟩) Y cg n wr hBk.out.row hTu.out.wd (by rw [hlen2]; exact hcg) (HN.out.below hBl.out) (HT.out.below hBl.out)
        rw [hlen2] at cd
        have HCD := Lib.hid cd
        clear hbt cd hlen2 hj hj32
        go_wp2_with (fail)
        refine HCD.out.mono ?_
        rintro e u7 ⟨r7, rfl, _, _, hb⟩
        have D7 := Lib.hid (hBl.out.trans (hb.mono hBl.out.size))
        clear hb HCD hTu hBk hBl
        rcases HBT.out with ⟨hbn, h0⟩ | ⟨jj, hbn, h0⟩
        · rw [hbn, show errVA n none = .nilIface from rfl]
          have hte : ((t : Int) == 0) = true := by rw [beq_iff_eq]; omega
          clear hbn h0 HBT
          go_wp2_with (fail)
          clear hte
          refine (HAL.out _ D7.out).mono ?_
          rintro e w9 ⟨rfl, hb⟩
          have B9 := Lib.hid (D7.out.trans (hb.mono D7.out.size))
          clear hb
          go_wp2_with (fail)
          go_ret
          exact ⟨rfl, B9.out⟩
        · obtain ⟨V1, hV1⟩ : ∃ V1, V1 = whyV n jj := ⟨_, rfl⟩
          rw [hbn, show errVA n (some jj) = .iface 78 (.agg #[V1]) by rw [hV1]; rfl]
          have hte : ((t : Int) == 0) = false := by rw [beq_eq_false_iff_ne]; omega
          clear hbn h0 HBT hV1
          go_wp2_with (fail)
          clear hte
          refine (HAL.out _ D7.out).mono ?_
          rintro e w9 ⟨rfl, hb⟩
          have B9 := Lib.hid (D7.out.trans (hb.mono D7.out.size))
          clear hb
          go_wp2_with (fail)
          go_ret
          exact ⟨rfl, B9.out⟩
  case none =>
  have hE1 : E0 = .nilIface := by rw [← HE0.out]; rfl
  subst hE1
  obtain ⟨my, ny, sy⟩ := dec_conv HBD.out
  rw [HY.out] at my ny sy
  have ce := aencode_ok y q U3 O3.out.li my ny (HT.out.below B4.out)
  rw [sy] at ce
  have HC := Lib.hid ce
  have hl32 : l.length = 32 := by rw [← sy]; exact sealed_len y
  have HL := Lib.hid hl32
  clear HE0 my ny sy ce hl32
  go_wp2_with (refine wpList_load_part rfl 28 (.tmp 9) rfl g3 0 rfl (y.c q).toList _ O3.out.bt.bt0 Tryz.underlying28 rfl attr_size (y.v q) rfl ?_)
  refine HC.out.mono ?_
  rintro e w5 ⟨ge, ce, rfl, hk, _, _, hb⟩
  have B5 := Lib.hid (B4.out.trans (hb.mono B4.out.size))
  have X5 := Lib.hid (X4.out.on hb)
  have R5 := Lib.hid (R4.out.below hb)
  have cs := same_calls (some ⟨ge, 0, none⟩) A l l ce c w5 hk.row R5.out (by rw [HL.out]; decide) (by rw [HL.out]; decide)
  rw [sameV_refl, HL.out] at cs
  have HCS := Lib.hid cs
  clear hb hk HC B4 X4 R4 O3 cs
  rw [HL.out] at *
  go_wp2_with (fail)
  refine HCS.out.mono ?_
  rintro e w6 ⟨rfl, mm, hw6⟩
  have hb6 : Below w5.heap.size w5 w6 := by rw [hw6]; exact below_drewN (Below.refl _ _) mm
  have B6 := Lib.hid (B5.out.trans (hb6.mono B5.out.size))
  have X6 := Lib.hid (X5.out.on hb6)
  clear hw6 hb6 HCS B5 X5 R5
  go_upto_region 8 with (fail)
  go_wp2_with (refine wpList_load_part rfl 28 (.tmp 4) rfl w.heap.size 0 rfl (x.c p).toList _ X6.out.bt.bt0 Tryz.underlying28 rfl attr_size (x.v p) rfl ?_)
  refine (racopy_calls x p w6 X6.out.li HSM.out).mono ?_
  rintro e u1 ⟨r, rfl, hC2, hb⟩
  have D1 := Lib.hid (B6.out.trans (hb.mono B6.out.size))
  have Y1 := Lib.hid (X6.out.on hb)
  have M1 := Lib.hid hC2.lies
  clear hb hC2 B6 X6
  have ce := aencode_bad x r u1 M1.out HSM.out
  have ce2 := fun h => aencode_ok x r u1 M1.out h HX.out (HT.out.below D1.out)
  have HC := Lib.hid ce
  have HC2 := Lib.hid ce2
  clear ce ce2
  obtain ⟨m, hm⟩ : ∃ m, amayB x = m := ⟨_, rfl⟩
  cases m
  case false =>
    have HM := Lib.hid hm
    clear hm
    go_wp2_with (fail)
    refine (HC.out HM.out).mono ?_
    rintro e u2 ⟨rfl, hb⟩
    have D2 := Lib.hid (D1.out.trans (hb.mono D1.out.size))
    have Y2 := Lib.hid (Y1.out.on hb)
    clear hb HC HC2 D1 Y1 M1
    go_wp2_with (refine wpList_load_part rfl 28 (.tmp 4) rfl w.heap.size 0 rfl (x.c p).toList _ Y2.out.bt.bt0 Tryz.underlying28 rfl attr_size (x.v p) rfl ?_)
    refine (racopy_calls x p u2 Y2.out.li HSM.out).mono ?_
    rintro e u3 ⟨r3, rfl, hC3, hb⟩
    have D3 := Lib.hid (D2.out.trans (hb.mono D2.out.size))
    have ck := acheck_calls x r3 u3 hC3.lies HSM.out
    rw [HM.out] at ck
    have HC := Lib.hid ck
    clear hb hC3 D2 Y2 ck
    go_wp2_with (fail)
    refine HC.out.mono ?_
    rintro e u4 ⟨rfl, hb⟩
    rw [show ckN false = 622 from rfl]
    have D4 := Lib.hid (D3.out.trans (hb.mono D3.out.size))
    clear hb D3 HC
    go_wp2_with (fail)
    refine (HAL.out _ D4.out).mono ?_
    rintro e w9 ⟨rfl, hb⟩
    have B9 := Lib.hid (D4.out.trans (hb.mono D4.out.size))
    clear hb
    go_wp2_with (fail)
    go_ret
    exact ⟨rfl, B9.out⟩
  case true =>
  have HM := Lib.hid hm
  clear hm
  go_wp2_with (fail)
  refine (HC2.out HM.out).mono ?_
  rintro e u2 ⟨g, cg, rfl, hk, hg, hcg, hb⟩
  have HG : Hid (w.heap.size ≤ g) := Lib.hid (Nat.le_trans D1.out.size hg)
  have D2 := Lib.hid (D1.out.trans (hb.mono D1.out.size))
  have Y2 := Lib.hid (Y1.out.on hb)
  clear HC HC2 D1 Y1 M1 hg
  obtain ⟨lx, hlx⟩ : ∃ lx, lx = sealed (atL x) := ⟨_, rfl⟩
  rw [← hlx] at hk
  have K2 := Lib.hid hk
  have hl32 : lx.length = 32 := by rw [hlx]; exact sealed_len x
  have HL32 := Lib.hid hl32
  have HLX := Lib.hid hlx
  have HWX : Hid (Wd lx) := Lib.hid (by rw [hlx]; exact sealed_wd (fit_of HM.out HX.out))
  have hrow := hk.row
  clear hb hk hlx
  go_wp2_with (at_builtin; refine wpList_cloneC rfl (.const (.slice none 0 0)) (.tmp 70) 36 rfl 49 i0 Tryz.underlying36 HI.out HZ.out HS.out HB.out (some ⟨g, 0, none⟩) lx cg rfl (by rw [hl32]; rfl) hrow (by rw [hl32]; decide) ?_; intro A1 c1 u3 hr1 hf1 hb1 hblk1 hc1)
  rw [HL32.out] at hc1
  have D3 := Lib.hid (D2.out.trans (hb1.mono D2.out.size))
  have Y3 := Lib.hid (Y2.out.on hb1)
  have K3 : Hid (Blk 49 u3 g lx) := Lib.hid (K2.out.below hb1 K2.out.lt)
  have cd := decode_calls A1 lx c1 n u3 hr1 HWX.out (by rw [HL32.out]; exact hc1) (HN.out.below D3.out) (HT.out.below D3.out)
  have hdb : badA lx = none ∧ attA lx = x := by rw [HLX.out]; exact dec_back HM.out HX.out
  rw [hdb.1, hdb.2, HL32.out] at cd
  have HCD := Lib.hid cd
  clear hrow hr1 hf1 hb1 hblk1 hc1 cd hdb D2 Y2 K2 hl32
  refine HCD.out.mono ?_
  rintro e u4 ⟨r4, rfl, hal, haf, hb⟩
  rw [show errVA n none = .nilIface from rfl]
  have D4 := Lib.hid (D3.out.trans (hb.mono D3.out.size))
  have Y4 := Lib.hid (Y3.out.on hb)
  have K4 : Hid (Blk 49 u4 g lx) := Lib.hid (K3.out.below hb K3.out.lt)
  have L4 := Lib.hid hal
  clear hb HCD hal haf D3 Y3 K3
  obtain ⟨C, hC⟩ : ∃ C, C = x.c r4 := ⟨_, rfl⟩
  have hone : C.all (·.oneCell') = true := by rw [hC]; exact c_one x r4
  have hsz : (Tryz.prog.info? 28).map (·.size) = some C.size := by rw [hC]; exact c_size x r4
  have hold : (zA : Array Value).size = C.size := by rw [hC]; rfl
  have HZn := Lib.hid (heap_alloc_new u4 (.cells zA 28))
  obtain ⟨U5, hU⟩ : ∃ U5, U5 = (u4.alloc (.cells zA 28)).setRow u4.heap.size C := ⟨_, rfl⟩
  have bu : Below u4.heap.size u4 U5 := by rw [hU]; exact put_below u4 C
  obtain ⟨g5, hh⟩ : ∃ g5, g5 = u4.heap.size := ⟨_, rfl⟩
  have O5 : Hid (Hl U5 g5 x r4) := Lib.hid (by rw [hU, hh, hC]; exact Hl.put L4.out)
  have D5 := Lib.hid (D4.out.trans (bu.mono D4.out.size))
  have Y5 := Lib.hid (Y4.out.on bu)
  have K5 := Lib.hid ((K4.out.below bu K4.out.lt : Blk 49 U5 g lx))
  rw [show x.v r4 = .agg C by rw [hC]]
  clear hC bu D4 Y4 K4 L4
  go_upto_region 12 with (first
    | (refine wpList_store_rowTo rfl 28 (.tmp 15) (.tmp 73) rfl rfl u4.heap.size C rfl rfl 28 _ HZn.out hsz hold hone ?_; rw [← hU]))
  clear hU HZn hsz hold hone
  rw [← hh]
  clear hh
  go_wp2_with (first
    | (refine wpList_load_part rfl 28 (.tmp 15) rfl g5 0 rfl (x.c r4).toList _ O5.out.bt.bt0 Tryz.underlying28 rfl attr_size (x.v r4) rfl ?_)
    | (refine wpList_load_part rfl 28 (.tmp 4) rfl w.heap.size 0 rfl (x.c p).toList _ Y5.out.bt.bt0 Tryz.underlying28 rfl attr_size (x.v p) rfl ?_))
  have cs := rasame_calls x x r4 p U5 O5.out.li Y5.out.li HSM.out HSM.out
  rw [asameB_self] at cs
  refine cs.mono ?_
  rintro e u6 ⟨rfl, hb⟩
  have D6 := Lib.hid (D5.out.trans (hb.mono D5.out.size))
  have K6 : Hid (Blk 49 u6 g lx) := Lib.hid (K5.out.below hb K5.out.lt)
  clear hb cs D5 Y5 K5 O5
  obtain ⟨k, hk, hk2⟩ : ∃ k : Nat, (ka : Int) % 2017 = (k : Int) ∧ k + 32 ≤ 2048 := ⟨ka % 2017, by omega, by omega⟩
  have hkt : (ka : Int).tmod 2017 = (k : Int) := by rw [Int.tmod_eq_emod_of_nonneg (Int.natCast_nonneg _)]; exact hk
  go_wp2_with (fail)
  clear hk hkt
  go_loopw [18] (fun i wr => ∃ (j : Nat) (Y : List Nat), i = .int .i64 j ∧ j ≤ 32 ∧ Hid (Turned lx k t j Y) ∧ Hid (Blk 49 wr g Y) ∧ Hid (Below w.heap.size w wr)) (fun i _ => 32 - (intOf i).toNat)
  case atStart => exact ⟨0, _, rfl, by omega, Lib.hid (Turned.zero HWX.out k t), K6, D6⟩
  case round =>
    obtain ⟨j, Y, rfl, hj, hTu, hBk, hBl⟩ := hrel
    clear K6 D6
    have hlen2 := hTu.out.len
    rw [HL32.out] at hlen2
    by_cases hj32 : j < 32
    · by_cases hbit : t / 2 ^ j % 2 = 1
      · have hI : (k + j) / 64 < Y.length := by omega
        have hI8 : (k + j) / 64 < 32 := by omega
        have hI8' : ((k : Int) + (j : Int)) / 64 < 32 := by omega
        have hcl := hBk.out.cell _ hI
        have hfz := hBk.out.frozen ((k + j) / 64)
        have hwd := hTu.out.wd ((k + j) / 64)
        have ht2 := Lib.hid (hTu.out.turn hbit (by rw [HL32.out]; omega))
        have hset := Lib.hid (hBk.out.set ((k + j) / 64) (Y.getD ((k + j) / 64) 0 ^^^ 2 ^ ((k + j) % 64)))
        have hb1 : (((t : Int) / 2 ^ j).tmod 2 == 1) = true := by
          rw [beq_iff_eq]
          have : ((t : Int) / 2 ^ j) = ((t / 2 ^ j : Nat) : Int) := by simp
          rw [this, Int.tmod_eq_emod_of_nonneg (Int.natCast_nonneg _)]; omega
        clear hbit hI hlen2
        generalize Y.getD ((k + j) / 64) 0 = xv at *
        go_wp2_with (fail)
        go_roundw
        case rel =>
          rw [flip_bit xv _ hwd (Nat.mod_lt _ (by decide))]
          exact ⟨j + 1, _, by go_num, by omega, ht2, hset, Lib.hid (hBl.out.setCell (p := ⟨g, (k + j) / 64, none⟩) HG.out _)⟩
        case measure => simp [intOf]; omega
      · have ht2 := Lib.hid (hTu.out.skip hbit)
        have hb1 : (((t : Int) / 2 ^ j).tmod 2 == 1) = false := by
          rw [beq_eq_false_iff_ne]
          have : ((t : Int) / 2 ^ j) = ((t / 2 ^ j : Nat) : Int) := by simp
          rw [this, Int.tmod_eq_emod_of_nonneg (Int.natCast_nonneg _)]; omega
        clear hbit hlen2
        go_wp2_with (fail)
        go_roundw
        case rel => exact ⟨j + 1, _, by go_num, by omega, ht2, hBk, hBl⟩
        case measure => simp [intOf]; omega
    · obtain rfl : j = 32 := by omega
      have hbt := bad_turned HM.out HX.out (by rw [← HLX.out]; exact hTu.out) HTT.out
      have HBT := Lib.hid hbt
      have cd := decode_calls (some ⟨g, 0, none⟩) Y cg n wr hBk.out.row hTu.out.wd (by rw [hlen2]; exact hcg) (HN.out.below hBl.out) (HT.out.below hBl.out)
      rw [hlen2] at cd
      have HCD := Lib.hid cd
      clear hbt cd hlen2 hj hj32
      go_wp2_with (fail)
      refine HCD.out.mono ?_
      rintro e u7 ⟨r7, rfl, _, _, hb⟩
      have D7 := Lib.hid (hBl.out.trans (hb.mono hBl.out.size))
      clear hb HCD hTu hBk hBl
      rcases HBT.out with ⟨hbn, h0⟩ | ⟨jj, hbn, h0⟩
      · rw [hbn, show errVA n none = .nilIface from rfl]
        have hte : ((t : Int) == 0) = true := by rw [beq_iff_eq]; omega
        clear hbn h0 HBT
        go_wp2_with (fail)
        clear hte
        refine (HAL.out _ D7.out).mono ?_
        rintro e w9 ⟨rfl, hb⟩
        have B9 := Lib.hid (D7.out.trans (hb.mono D7.out.size))
        clear hb
        go_wp2_with (fail)
        go_ret
        exact ⟨rfl, B9.out⟩
      · obtain ⟨V1, hV1⟩ : ∃ V1, V1 = whyV n jj := ⟨_, rfl⟩
        rw [hbn, show errVA n (some jj) = .iface 78 (.agg #[V1]) by rw [hV1]; rfl]
        have hte : ((t : Int) == 0) = false := by rw [beq_eq_false_iff_ne]; omega
        clear hbn h0 HBT hV1
        go_wp2_with (fail)
        clear hte
        refine (HAL.out _ D7.out).mono ?_
        rintro e w9 ⟨rfl, hb⟩
        have B9 := Lib.hid (D7.out.trans (hb.mono D7.out.size))
        clear hb
        go_wp2_with (fail)
        go_ret
        exact ⟨rfl, B9.out⟩
end Go.Proofs.YtlejmpinfbmccaaGreatDoor
