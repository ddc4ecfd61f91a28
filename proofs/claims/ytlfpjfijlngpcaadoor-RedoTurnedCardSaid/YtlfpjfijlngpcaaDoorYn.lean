/- RedoTurned: for every list, place and bits the law returns true; nothing that was there has turned. -/
import Derived.Test.YtlfpjfijlngpcaaDoorYl
import Derived.Test.YtlfpjfijlngpcaaDoorTurnMath
set_option linter.unusedSimpArgs false
set_option linter.unusedVariables false
namespace Go.Proofs.YtlfpjfijlngpcaaDoor
open Go.RowKit WordMath
open SumMath
theorem flip_bit (x b : Nat) (hx : x < 18446744073709551616) (hb : b < 64) : bits .xor .u64 (x : Int) (IntKind.u64.wrap ((2 : Int) ^ b)) = ((x ^^^ 2 ^ b : Nat) : Int) := by
  have h : 2 ^ b < 18446744073709551616 := by
    have := Nat.pow_lt_pow_right (a := 2) (by decide) hb
    simpa using this
  have e : IntKind.u64.wrap ((2 : Int) ^ b) = ((2 ^ b : Nat) : Int) := by
    have e2 : ((2 : Int) ^ b) = ((2 ^ b : Nat) : Int) := by simp
    rw [e2, IntKind.wrap_u64]; exact Int.emod_eq_of_lt (Int.natCast_nonneg _) (Int.ofNat_lt.2 h)
  rw [e, u64_xor_nat _ _ hx h]
theorem bit_key (t j : Nat) (ht : t < 4294967296) : bits .and .u32 ((t : Int) / 2 ^ j) 1 = ((t / 2 ^ j % 2 : Nat) : Int) := by
  have h1 : t / 2 ^ j ≤ t := Nat.div_le_self _ _
  rw [show ((t : Int) / 2 ^ j) = ((t / 2 ^ j : Nat) : Int) by simp, show (1 : Int) = ((1 : Nat) : Int) from rfl, u32_and_nat _ _ (by omega) (by omega)]
  congr 1
  exact Nat.and_two_pow_sub_one_eq_mod _ 1
theorem made_set (w : World) (v : Nat) (e : TypeId) : Blk e (w.alloc (.cells ((madeCells #[.int .u64 0] 136).setIfInBounds 0 (.int .u64 (v : Int))) e)) w.heap.size ((List.replicate 136 0).set 0 v) := by
  unfold Blk
  rw [madeCells_words, wv_set, List.setIfInBounds_toArray]
  exact heap_alloc_new w _
/-- Between two rounds: the slot, its words, whether some are turned. -/
structure Tn (Y : List Nat) (M C k u j : Nat) (S : List Nat) (f : Bool) : Prop where
  ex : ∃ y, Bd S y M C ∧ Turned Y k u j y
  wd : Wd S
  f : f = decide (u % 2 ^ j ≠ 0)
theorem Tn.start {Y S : List Nat} {M C k u : Nat} (hY : Wd Y) (hb : Bd S Y M C) (hs : Wd S) : Tn Y M C k u 0 S false :=
  ⟨⟨Y, hb, Turned.zero hY k u⟩, hs, by simp [Nat.mod_one]⟩
theorem Tn.skip {Y S : List Nat} {M C k u j : Nat} {f : Bool} (h : Tn Y M C k u j S f) (hb : ¬ u / 2 ^ j % 2 = 1) : Tn Y M C k u (j + 1) S f := by
  obtain ⟨y, h1, h2⟩ := h.ex
  refine ⟨⟨y, h1, h2.skip hb⟩, h.wd, ?_⟩
  rw [h.f, decide_eq_decide, mod_more]
  constructor
  · exact .inl
  · rintro (h | h)
    · exact h
    · exact absurd h hb
theorem Tn.turn {Y S : List Nat} {M C k u j : Nat} {f : Bool} (h : Tn Y M C k u j S f) (hY : Y.length = M) (hb : u / 2 ^ j % 2 = 1) (hk : (k + j) / 64 < M) :
    Tn Y M C k u (j + 1) (S.set (8 + (k + j) / 64) (S.getD (8 + (k + j) / 64) 0 ^^^ 2 ^ ((k + j) % 64))) true := by
  obtain ⟨y, h1, h2⟩ := h.ex
  have e := h1.at' _ hk
  have h3 := h1.set (v := y.getD ((k + j) / 64) 0 ^^^ 2 ^ ((k + j) % 64)) hk
  have h4 := h2.turn hb (by rw [hY]; exact hk)
  rw [e]
  refine ⟨⟨_, h3, h4⟩, h.wd.set _ _ ?_, ?_⟩
  · exact Nat.xor_lt_two_pow (n := 64) (by simpa using h2.wd _) (Nat.pow_lt_pow_right (by decide) (Nat.mod_lt _ (by decide)))
  · symm
    rw [decide_eq_true_eq, mod_more]
    exact .inr hb
theorem Tn.len {Y S : List Nat} {M C k u j : Nat} {f : Bool} (h : Tn Y M C k u j S f) : S.length = 136 := by
  obtain ⟨y, h1, _⟩ := h.ex
  exact h1.len
/-- What Read tells then. -/
theorem Tn.done {L : List Re} {S : List Nat} {k u : Nat} {f : Bool} (h : Tn (bodyL L) (2 * L.length) (commitN L) k u 32 S f) (hm : rmayE L = 0) (hg : GoodR L) (hu : u < 4294967296) (hk : k ≤ 64 * (2 * L.length)) :
    (f = true → readE S = 7 ∧ readB S = false ∧ readL S = []) ∧ (f = false → readE S = 0 ∧ readB S = true ∧ readL S = L) := by
  obtain ⟨y, h1, h2⟩ := h.ex
  have hf := h.f
  rw [mod_full hu] at hf
  constructor
  · intro he
    rw [he] at hf
    have h0 : u ≠ 0 := of_decide_eq_true hf.symm
    have hn := h2.num
    rw [mod_full hu] at hn
    have hs := burst_sum (l := bodyL L) (y := y) (k := k) (t := u) hg.wd.mem h2.wd.mem h2.len hu h0 (by rw [body_len]; exact hk) hn
    exact read_turned (rmay_0 hm).1 h1.len h1.zero h1.yl h1.at' hs
  · intro he
    rw [he] at hf
    have h0 : u = 0 := by
      have := of_decide_eq_false hf.symm
      omega
    subst h0
    have hy := h2.same hg.wd
    subst hy
    exact read_laid hm h1.len h1.zero h1.at'
set_option maxRecDepth 100000 in
set_option maxHeartbeats 2000000 in
theorem turned_law (A : Option Addr) (L : List Re) (c : Nat) (at' : Int) (by' : Int) (n : Sn) (w : World) (p0 : 0 ≤ at') (p1 : at' < 65536) (t0 : 0 ≤ by') (t1 : by' < 4294967296) (ha : Cel w A (ev L)) (hll : L.length ≤ 9223372036854775807) (hn : RN L) (hT : TabAt w) (hE : ErrAt w) (hN : SnAt w n) :
    Calls Tryd.prog 7 #[.slice A L.length c, .int .u16 at', .int .u32 by'] w fun e w' => e = .returned (.bool true) ∧ Below w.heap.size w w' := by
  have HT := Lib.hid hT
  have HE := Lib.hid hE
  have HSN := Lib.hid hN
  have HLL := Lib.hid hll
  obtain ⟨p, rfl⟩ := Int.eq_ofNat_of_zero_le p0
  obtain ⟨t, rfl⟩ := Int.eq_ofNat_of_zero_le t0
  have hp : p < 65536 := by omega
  have ht : t < 4294967296 := by omega
  clear p0 p1 t0 t1
  by_cases h1 : 300 < L.length
  · have d1 : decide (300 < L.length) = true := decide_eq_true h1
    go_enter Tryd.func7, Tryd.ntmps7
    go_wp2_with (fail)
    have c1 := large_calls A L c w HLL.out
    rw [d1] at c1
    refine c1.mono ?_
    rintro e w' ⟨rfl, rfl⟩
    go_wp2_with (fail)
    refine (alive_calls n w HT.out HE.out HSN.out).mono ?_
    rintro e w' ⟨rfl, hb⟩
    go_wp2_with (fail)
    go_ret
    exact ⟨rfl, hb⟩
  have d1 : decide (300 < L.length) = false := decide_eq_false h1
  have HL1 := Lib.hid h1
  clear h1
  have HRN := Lib.hid hn
  have cL := large_calls A L c w HLL.out
  rw [d1] at cL
  have cl := lay_calls A L c w ha HRN.out HLL.out HT.out
  unfold LayP at cl
  obtain ⟨nL, hnL⟩ : ∃ z, L.length = z := ⟨_, rfl⟩
  have HNL := Lib.hid hnL
  rw [hnL] at cL cl ⊢
  have CL := Lib.hid cl
  clear cl d1 hT hE hN hn hll hnL
  by_cases hz : nL = 0
  · subst hz
    go_enter Tryd.func7, Tryd.ntmps7
    go_wp2_with (fail)
    refine cL.mono ?_
    rintro e w' ⟨rfl, rfl⟩
    go_wp2_with (fail)
    refine (alive_calls n w HT.out HE.out HSN.out).mono ?_
    rintro e w' ⟨rfl, hb⟩
    go_wp2_with (fail)
    go_ret
    exact ⟨rfl, hb⟩
  have dz : ((nL : Int) == 0) = false := by rw [beq_eq_false_iff_ne]; omega
  by_cases hm : rmayE L = 0
  · obtain ⟨hm64, _⟩ := rmay_0 hm
    have HGD := Lib.hid (good_may HRN.out hm)
    have CL2 := CL.out
    rw [layL_yes hm, layC_yes hm, hm] at CL2
    have HM0 := Lib.hid hm
    have CL := Lib.hid CL2
    clear CL2
    rw [HNL.out] at hm64
    have hYL := body_len L
    rw [HNL.out] at hYL
    have hclt := commit_lt (l := L) (by rw [HNL.out]; exact hm64) HGD.out.wd.mem
    have HYW := Lib.hid HGD.out.wd
    obtain ⟨Y, hY⟩ : ∃ Y, bodyL L = Y := ⟨_, rfl⟩
    have HYE := Lib.hid hY
    obtain ⟨C, hC⟩ : ∃ C, commitN L = C := ⟨_, rfl⟩
    have HCE := Lib.hid hC
    rw [hY] at CL HYW hYL
    rw [hC] at CL hclt
    obtain ⟨M, hM⟩ : ∃ M, Y.length = M := ⟨_, rfl⟩
    rw [hM] at CL hYL
    have HM := Lib.hid hM
    have HMN := Lib.hid hYL
    have q1 : ((M : Int) != 2 * (nL : Int)) = false := by rw [hYL]; simp
    have q2 : decide ((128 : Int) < (M : Int)) = false := by rw [decide_eq_false_iff_not]; omega
    have hM2 : M ≤ 128 := by omega
    have hM1 : 0 < M := by omega
    have hmk : ∀ w : World, (Instr.makeSlice 25 (.int .i64 136) (.int .i64 136)).run Tryd.prog w = .ok (.slice (some ⟨w.heap.size, 0, none⟩) 136 136) (w.alloc (.cells (madeCells #[.int .u64 0] 136) 26)) := run_make_row' (P := Tryd.prog) 25 26 (.int .u64 0) 8 Tryd.underlying25 u64_info rfl .i64 .i64 136 (by decide) (by decide)
    clear hm hY hC hM hYL hz
    go_enter Tryd.func7, Tryd.ntmps7
    go_wp2_with (fail)
    refine cL.mono ?_
    clear cL
    rintro e w' ⟨rfl, rfl⟩
    go_wp2_with (fail)
    refine CL.out.mono ?_
    clear CL
    rintro e w1 ⟨R2, cr2, rfl, hmw, hb1⟩
    have HB1 := Lib.hid hb1
    have HMW := Lib.hid hmw
    have HA := Lib.hid (ha.below hb1)
    have HBK := Lib.hid (Blk.new w1 26 136)
    have z0 := HBK.out.cell 0 (by simp)
    have z1 := HBK.out.frozen 0
    have zl := HBK.out.lt
    have HBS := Lib.hid (made_set w1 C 26)
    have HB2 := Lib.hid (on_alloc w1 (.cells ((madeCells #[.int .u64 0] 136).setIfInBounds 0 (.int .u64 (C : Int))) 26))
    clear ha hb1 hmw
    go_wp2_with (fail)
    obtain ⟨g, hg⟩ : ∃ g, w1.heap.size = g := ⟨_, rfl⟩
    have HWG : Hid (w1.heap.size ≤ g) := Lib.hid (by omega)
    rw [hg] at HBS
    have HBW : Hid (Below w1.heap.size w1 (w1.alloc (.cells ((madeCells #[.int .u64 0] 136).setIfInBounds 0 (.int .u64 (C : Int))) 26))) := Lib.hid HB2.out
    have HLY := Lib.hid (Ly.start (s := List.replicate 136 0) (b := Y) (c := C) (by simp) (by rw [HM.out]; exact hM2))
    have HSW := Lib.hid ((wd_repl 136).set 0 C hclt)
    rw [hg]
    clear HB2 hmk q1 q2 dz hg HBK z0 z1 zl
    generalize w1.alloc (.cells ((madeCells #[.int .u64 0] 136).setIfInBounds 0 (.int .u64 (C : Int))) 26) = w3 at *
    go_loopw [11] (fun i wr => ∃ (k : Nat) (S : List Nat), i = .int .i64 k ∧ k ≤ M ∧ Hid (Ly S Y k C) ∧ Hid (Wd S) ∧ Hid (Blk 26 wr g S) ∧ Hid (Below w1.heap.size w1 wr)) (fun i _ => M - (intOf i).toNat)
    case atStart => exact ⟨0, _, rfl, by omega, HLY, HSW, HBS, HBW⟩
    case round =>
      obtain ⟨k, S, rfl, hk, hLy, hSW, hBk, hBr⟩ := hrel
      by_cases h1 : k < M
      · obtain ⟨bR, oR, rfl, hlR, hcR⟩ := (HMW.out.row.below hBr.out).at0 (by rw [HM.out]; omega)
        have e1 := hcR k (by rw [HM.out]; exact h1)
        have e2 := hBk.out.cell (8 + k) (by rw [hLy.out.len]; omega)
        have f2 := hBk.out.frozen (8 + k)
        have hst := hLy.out.step (by rw [HM.out]; exact h1)
        have hsw := hSW.out.set (8 + k) (Y.getD k 0) (HYW.out k)
        have hsb := hBk.out.set (8 + k) (Y.getD k 0)
        have HST := Lib.hid hst
        have HSS := Lib.hid hsw
        have HSB := Lib.hid hsb
        have i1 : (8 : Int) + (k : Int) < 136 := by omega
        clear hcR hst hsw hsb
        generalize Y.getD k 0 = y at *
        generalize S.getD (8 + k) 0 = old at *
        go_wp2_with (fail)
        have hbo := hBr.out.setCell (p := ⟨g, 8 + k, none⟩) HWG.out (.int .u64 (y : Int))
        go_roundw
        case rel => exact ⟨k + 1, _, by go_num, by omega, HST, HSS, HSB, Lib.hid hbo⟩
        case measure => simp [intOf]; omega
      · obtain rfl : k = M := by omega
        have hL2 := hLy.out
        rw [← HM.out] at hL2
        have hBd := hL2.done
        rw [HM.out] at hBd
        obtain ⟨k0, hk0, hk1⟩ : ∃ k0 : Nat, (p : Int) % (64 * (k : Int)) = (k0 : Int) ∧ k0 < 64 * k := by
          refine ⟨((p : Int) % (64 * (k : Int))).toNat, ?_, ?_⟩
          · rw [Int.toNat_of_nonneg (Int.emod_nonneg _ (by omega))]
          · have := Int.emod_lt_of_pos (p : Int) (show 0 < 64 * (k : Int) by omega)
            omega
        have hk2 : (p : Int).tmod (64 * (k : Int)) = (k0 : Int) := by rw [Int.tmod_eq_emod_of_nonneg (Int.natCast_nonneg _)]; exact hk0
        have HT0 := Lib.hid (Tn.start (k := k0) (u := cutT t (64 * k - k0)) HYW.out hBd hSW.out)
        have HU := Lib.hid (cut_lt t (64 * k - k0))
        have HUB := Lib.hid (fun i hi => cut_bit t (64 * k - k0) i hi)
        obtain ⟨u, hu⟩ : ∃ u, cutT t (64 * k - k0) = u := ⟨_, rfl⟩
        rw [hu] at HT0 HU HUB
        clear hL2 hBd hu hLy hSW
        go_wp2_with (fail)
        go_loopw [13, 14] (fun fl i wr => ∃ (j : Nat) (S : List Nat) (f : Bool), i = .int .i64 j ∧ j ≤ 32 ∧ fl = .bool f ∧ Hid (Tn Y k C k0 u j S f) ∧ Hid (Blk 26 wr g S) ∧ Hid (Below w1.heap.size w1 wr)) (fun _ i _ => 32 - (intOf i).toNat)
        case atStart => exact ⟨0, _, false, rfl, by omega, rfl, HT0, hBk, hBr⟩
        case round =>
          clear HT0 hBk hBr
          obtain ⟨j, S, f, rfl, hj, rfl, hTn, hBk, hBr⟩ := hrel
          by_cases hj32 : j < 32
          · have hub := HUB.out j hj32
            by_cases hbit : t / 2 ^ j % 2 = 1
            · have hb1 : bits .and .u32 ((t : Int) / 2 ^ j) 1 = 1 := by rw [bit_key t j ht, hbit]; rfl
              by_cases hin : k0 + j < 64 * k
              · have hst := hTn.out.turn HM.out (hub.2 ⟨hbit, by omega⟩) (by omega)
                have hI : 8 + (k0 + j) / 64 < 136 := by omega
                have hc := hBk.out.cell (8 + (k0 + j) / 64) (by rw [hTn.out.len]; exact hI)
                have hf := hBk.out.frozen (8 + (k0 + j) / 64)
                have hw := hTn.out.wd (8 + (k0 + j) / 64)
                have HST := Lib.hid hst
                have HSET := Lib.hid (hBk.out.set (8 + (k0 + j) / 64) (S.getD (8 + (k0 + j) / 64) 0 ^^^ 2 ^ ((k0 + j) % 64)))
                have i2 : (8 : Int) + ((k0 : Int) + (j : Int)) / 64 < 136 := by omega
                have i3 : (k0 : Int) + (j : Int) < 64 * (k : Int) := by omega
                clear hst hbit hub
                generalize S.getD (8 + (k0 + j) / 64) 0 = x at *
                go_wp2_with (fail)
                have hbo := hBr.out.setCell (p := ⟨g, 8 + (k0 + j) / 64, none⟩) HWG.out (.int .u64 ((x ^^^ 2 ^ ((k0 + j) % 64) : Nat) : Int))
                go_roundw
                case rel =>
                  rw [flip_bit x _ hw (Nat.mod_lt _ (by decide))]
                  exact ⟨j + 1, _, true, by go_num, by omega, rfl, HST, HSET, Lib.hid hbo⟩
                case measure => simp [intOf]; omega
              · have hst := Lib.hid (hTn.out.skip (fun h => by have := (hub.1 h).2; omega))
                have i3 : ¬ (k0 : Int) + (j : Int) < 64 * (k : Int) := by omega
                clear hub hbit
                go_wp2_with (fail)
                go_roundw
                case rel => exact ⟨j + 1, S, f, by go_num, by omega, rfl, hst, hBk, hBr⟩
                case measure => simp [intOf]; omega
            · have hb1 : (bits .and .u32 ((t : Int) / 2 ^ j) 1 == 1) = false := by rw [bit_key t j ht, beq_eq_false_iff_ne]; omega
              have hst := Lib.hid (hTn.out.skip (fun h => hbit (hub.1 h).1))
              clear hub hbit
              go_wp2_with (fail)
              go_roundw
              case rel => exact ⟨j + 1, S, f, by go_num, by omega, rfl, hst, hBk, hBr⟩
              case measure => simp [intOf]; omega
          · obtain rfl : j = 32 := by omega
            have hTd := hTn.out
            have e1 : k = 2 * L.length := by rw [HNL.out]; exact HMN.out
            have hdd : Tn (bodyL L) (2 * L.length) (commitN L) k0 u 32 S f := by rw [HYE.out, ← e1, HCE.out]; exact hTd
            obtain ⟨hd1, hd2⟩ := hdd.done HM0.out HGD.out HU.out (by omega)
            have cr := read_calls (some ⟨g, 0, none⟩) S 136 n wr hBk.out.row hTd.wd (by rw [hTd.len]; decide) (by rw [hTd.len]; decide) ((HSN.out.below HB1.out).below hBr.out) ((HT.out.below HB1.out).below hBr.out)
            unfold ReadsP at cr
            rw [hTd.len] at cr
            have hbw := Lib.hid (HB1.out.trans (hBr.out.mono HB1.out.size))
            have HAW := Lib.hid (HA.out.below hBr.out)
            clear hTd hdd hTn hBk e1 hk0 hk2
            cases f
            · obtain ⟨r1, r2, r3⟩ := hd2 rfl
              rw [r1, r2, r3, HNL.out] at cr
              clear hd1 hd2 r1 r2 r3
              go_wp2_with (fail)
              refine cr.mono ?_
              rintro e w4 ⟨xq, R4, cr4, rfl, hm4, hb4⟩
              rw [show errR xq 0 = .nilIface from rfl]
              have hbw4 := Lib.hid (hbw.out.trans (hb4.mono hbw.out.size))
              have HM4 := Lib.hid hm4.cel
              have HA4 := Lib.hid (HAW.out.below hb4)
              clear hm4 hb4 cr
              go_wp2_with (fail)
              have cs := rsame_calls R4 A L L cr4 c w4 HM4.out HA4.out (by rw [HNL.out]; omega) (by rw [HNL.out]; omega)
              rw [rowsB_self, HNL.out] at cs
              refine cs.mono ?_
              clear cs
              rintro e w' ⟨rfl, qq, rfl⟩
              have hbw5 := Lib.hid (below_drewN hbw4.out qq)
              generalize w4.drewN qq = w5 at *
              go_wp2_with (fail)
              refine (alive_calls n w5 (HT.out.below hbw5.out) (HE.out.below hbw5.out) (HSN.out.below hbw5.out)).mono ?_
              rintro e w6 ⟨rfl, hb⟩
              go_wp2_with (fail)
              go_ret
              exact ⟨rfl, hbw5.out.trans (hb.mono hbw5.out.size)⟩
            · obtain ⟨r1, r2, r3⟩ := hd1 rfl
              rw [r1, r2, r3] at cr
              clear hd1 hd2 r1 r2 r3
              go_wp2_with (fail)
              refine cr.mono ?_
              rintro e w4 ⟨xq, R4, cr4, rfl, hm4, hb4⟩
              rw [show errR xq 7 = mV xq from rfl]
              have hbw4 := Lib.hid (hbw.out.trans (hb4.mono hbw.out.size))
              clear hm4 hb4 cr
              go_wp2_with (fail)
              have cs := told_some xq w4 (HE.out.below hbw4.out)
              unfold fR at cs
              refine cs.mono ?_
              clear cs
              rintro e w5 ⟨rfl, hb5⟩
              have hbw5 := Lib.hid (hbw4.out.trans (hb5.mono hbw4.out.size))
              clear hb5
              go_wp2_with (fail)
              refine (alive_calls n w5 (HT.out.below hbw5.out) (HE.out.below hbw5.out) (HSN.out.below hbw5.out)).mono ?_
              rintro e w6 ⟨rfl, hb⟩
              go_wp2_with (fail)
              go_ret
              exact ⟨rfl, hbw5.out.trans (hb.mono hbw5.out.size)⟩
  · have hne : (rmayE L != 0) = true := by rw [bne_iff_ne]; exact hm
    clear hm
    generalize rmayE L = E at *
    go_enter Tryd.func7, Tryd.ntmps7
    go_wp2_with (fail)
    refine cL.mono ?_
    clear cL
    rintro e w' ⟨rfl, rfl⟩
    go_wp2_with (fail)
    refine CL.out.mono ?_
    clear CL
    rintro e w1 ⟨R2, cr2, rfl, hmw, hb1⟩
    go_wp2_with (fail)
    refine (alive_calls n w1 (HT.out.below hb1) (HE.out.below hb1) (HSN.out.below hb1)).mono ?_
    rintro e w2 ⟨rfl, hb⟩
    go_wp2_with (fail)
    go_ret
    exact ⟨rfl, hb1.trans (hb.mono hb1.size)⟩
end Go.Proofs.YtlfpjfijlngpcaaDoor
