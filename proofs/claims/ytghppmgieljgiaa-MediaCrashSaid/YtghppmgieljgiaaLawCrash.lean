/- MediaCrash: whatever it is called with, it hands back true; nothing that was there has turned. -/
import Derived.Test.YtghppmgieljgiaaPair
namespace Go.Proofs.Ytghppmgieljgiaa
open Go.RowKit
theorem bool_info' : (Try.prog.info? 4).map (fun i => (i.zero, i.size, i.bytes)) = some (some (.bool false), 1, 1) := by kernel_rfl
set_option maxHeartbeats 2000000 in
set_option maxRecDepth 100000 in
theorem crash_law_calls (x0 : Nat) (A1 : Option Addr) (l : List St) (c1 : Nat) (A2 : Option Addr) (keep : List Bool) (c2 : Nat) (w : World)
    (hx0 : x0 < 256) (hr1 : SRow w A1 l) (hl1 : l.length ≤ 9223372036854775807) (ho1 : ∀ k, k < l.length → StOK w (l.getD k s0))
    (hr2 : Cel w A2 (bv keep)) (hl2 : keep.length ≤ 9223372036854775807) :
    Calls Try.prog 5 #[.int .u8 (x0 : Nat), .slice A1 l.length c1, .slice A2 keep.length c2] w fun e w' => e = .returned (.bool true) ∧ Below w.heap.size w w' := by
  have HO1 := Lib.hid ho1
  have HH1 := Lib.hid (heavy_calls w A1 l c1 hr1 ho1 hl1)
  clear ho1
  obtain ⟨n, hn, hn1, hn2⟩ : ∃ n : Nat, (x0 : Int) % 30 + 1 = n ∧ 1 ≤ n ∧ n ≤ 30 := ⟨x0 % 30 + 1, by omega, by omega, by omega⟩
  go_enter Try.func5, Try.ntmps5
  go_wp2_with (fail)
  refine HH1.out.mono ?_
  rintro e w' ⟨b1, rfl, rfl, hb1⟩
  cases b1
  · obtain ⟨hq1, hq2⟩ := hb1 rfl
    have HQ2 := Lib.hid hq2
    clear hb1 hq2
    by_cases hk4 : 400 < keep.length
    · go_wp2_with (fail)
      refine (alive_calls w).mono ?_
      rintro e w1 ⟨rfl, hb⟩
      go_wp2_with (fail)
      go_ret
      exact ⟨rfl, hb⟩
    · have hk5 : keep.length ≤ 400 := by omega
      go_wp2_with (fail)
      refine (new_calls w n hn1 (by omega)).mono ?_
      intro e w1 h
      obtain ⟨g, F, rfl, m1⟩ := Mine.of_new h
      clear h
      go_wp2_with (fail)
      refine (new_calls w1 n hn1 (by omega)).mono ?_
      intro e w2 h
      obtain ⟨g', rfl, d2, b2⟩ := h
      have M2 : PairM w w2 g g' ⟨List.replicate (8 * n) 0, List.replicate (8 * n) 0, []⟩ ⟨List.replicate (8 * n) 0, List.replicate (8 * n) 0, []⟩ n 0 0 :=
        ⟨F, _, ⟨m1.pass b2, ⟨d2, fun i hi => Nat.le_trans m1.below.size hi.1, m1.below.trans (b2.mono m1.below.size)⟩, fun i hi hf => by have := m1.dev.lt _ hi; have := hf.1; omega⟩, ⟨Inv.start _, by simp, by simp⟩, ⟨Inv.start _, by simp, by simp⟩⟩
      clear m1 d2 b2
      go_wp2_with (fail)
      go_loopw [12] (fun i wr => ∃ (k : Nat) (m : Mo), i = .int .i64 k ∧ k ≤ l.length ∧ PairM w wr g g' m m n k k) (fun i _ => l.length - (intOf i).toNat)
      case atStart => exact ⟨0, _, rfl, Nat.zero_le _, M2⟩
      case round =>
        obtain ⟨k, m, rfl, hk, hM⟩ := hrel
        clear M2
        by_cases hlt : k < l.length
        · obtain ⟨b, o, rfl, hbl, hc⟩ := hr1.below hM.below (by omega)
          obtain ⟨y0, y1, y2, y3⟩ := hc k hlt
          have hD := Lib.hid (hM.doesA (by omega) (by omega) (l.getD k s0) (HO1.out k hlt) (HQ2.out k hlt))
          have hE := Lib.hid (fun (w2 : World) (m2 : Mo) (N : Nat) (h : PairM w w2 g g' m2 m n N k) => h.doesB (by omega) (by omega) (l.getD k s0) (HO1.out k hlt) (HQ2.out k hlt))
          have hR := Lib.hid (fun (w2 : World) (h : Below w.heap.size w w2) => (hr1.below h (by omega)))
          have HK := Lib.hid hlt
          clear hc
          generalize hst : l.getD k s0 = st at *
          have HST := Lib.hid hst
          clear hst
          go_wp2_with (fail)
          refine hD.out.mono ?_
          rintro e w3 ⟨rfl, hM3⟩
          obtain ⟨b', o', hA', _, hc'⟩ := hR.out w3 hM3.below
          injection hA' with hA'
          injection hA' with hA1 hA2
          subst hA1 hA2
          obtain ⟨y0', y1', y2', y3'⟩ := hc' k HK.out
          rw [HST.out] at y0' y1' y2' y3'
          clear hc' y0 y1 y2 y3
          go_wp2_with (fail)
          refine (hE.out w3 _ _ hM3).mono ?_
          rintro e w4 ⟨rfl, hM4⟩
          go_wp2_with (fail)
          go_roundw
          case rel => exact ⟨k + 1, _, by go_num, by omega, hM4⟩
          case measure => simp [intOf]; omega
        · obtain rfl : k = l.length := by omega
          clear hk
          obtain ⟨K, S, L⟩ := m
          obtain ⟨F2, F2', p2, hok, _⟩ := hM
          have hinv : Inv K S L := hok.inv
          have hLf : L.length ≤ l.length := hok.few
          obtain ⟨N, hN8, hKl, hN1, hN2⟩ : ∃ N : Nat, 8 * (n : Int) = (N : Int) ∧ K.length = N ∧ 1 ≤ N ∧ N ≤ 1000 := ⟨8 * n, by omega, hok.len, by omega, by omega⟩
          have hSl : S.length = N := hinv.len.trans hKl
          have pa : Mine w wr g F2 K S L := p2.a
          have C1 := kept_calls pa.dev (by omega)
          rw [hKl] at C1
          have HKL := Lib.hid hKl
          have HSL := Lib.hid hSl
          have HINV := Lib.hid hinv
          clear hKl hSl hinv hok
          go_wp2_with (fail)
          refine C1.mono ?_
          rintro e w3 ⟨A3, c3, rfl, o3, b3, l3⟩
          have k3 := Own2.of_cloned o3 l3 p2
          have p3 := p2.pass b3
          have pa3 : Mine w w3 g F2 K S L := p3.a
          have C2 := words_calls pa3.dev (by have := HSL.out; omega)
          rw [HSL.out] at C2
          clear C1 o3 l3 pa
          go_wp2_with (fail)
          refine C2.mono ?_
          rintro e w4 ⟨A4, c4, rfl, o4, b4, l4⟩
          have v4 := Own2.of_cloned o4 l4 p3
          have p4 := p3.pass b4
          have k4 := k3.below b4
          have pa4 : Mine w w4 g F2 K S L := p4.a
          clear C2 o4 l4 pa3
          go_wp2_with (fail)
          refine (pending_calls pa4.dev (by omega)).mono ?_
          rintro e w5 ⟨A5, c5, rfl, o5, b5, l5⟩
          have q5 := Own2.of_cloned o5 l5 p4
          have p5 := p4.pass b5
          have k5 := k4.below b5
          have v5 := v4.below b5
          clear o5 l5 pa4 k3 k4 v4 b3 b4 b5 p2 p3 p4
          obtain ⟨i0, hi0, hz0, hs0, hb0⟩ := info_parts bool_info
          have HI := Lib.hid hi0
          have HZ := Lib.hid hz0
          have HS := Lib.hid hs0
          have HBY := Lib.hid hb0
          clear hi0 hz0 hs0 hb0
          go_wp2_with (at_builtin; refine wpList_clone_n rfl (.const (.slice none 0 0)) (.tmp 83) 33 rfl 4 i0 _ 1 1 Try.underlying33 HI.out HZ.out HS.out HBY.out rfl (by decide) A2 keep.length c2 (bv keep) (hr2.below p5.a.below) (by rw [bv_length, Nat.mul_one]) (bv_one keep) (by omega) (by decide) rfl rfl ?_; intro A10 c10 w10 hown hb10 hnew)
          have p10 := p5.pass hb10
          have pa10 : Mine w w10 g F2 K S L := p10.a
          refine (crash_calls pa10.dev HINV.out.pos (by omega) (by have := HKL.out; omega) HINV.out.len A10 keep c10 hown.cel (by omega) (fun ad e _ hf => by
            have q1 := hnew ad e
            have q2 := p5.a.dev.lt _ hf
            omega)).mono ?_
          rintro e w11 ⟨rfl, t⟩
          obtain ⟨F11, p11, tr⟩ := p10.turnA (m2 := ⟨lay K (keeps (stC keep) L), lay K (keeps (stC keep) L), []⟩) t
          have k11 := tr _ _ _ _ _ _ (k5.below hb10)
          have v11 := tr _ _ _ _ _ _ (v5.below hb10)
          have q11 := tr _ _ _ _ _ _ (q5.below hb10)
          have HFE := Lib.hid (fineV_end K L (stC keep))
          have hZl : (lay K (keeps (stC keep) L)).length = N := by rw [lay_length]; exact HKL.out
          clear t tr hown hnew p10 pa10 p5 k5 v5 q5
          generalize lay K (keeps (stC keep) L) = Z at *
          have HZL := Lib.hid hZl
          clear hZl
          have hmk := run_make_row' (P := Try.prog) 33 4 (.bool false) 1 Try.underlying33 bool_info' rfl .i64 .i64 L.length (by omega) (by omega) w11
          go_wp2_with (fail)
          clear hmk
          go_loopw [17] (fun i wx => ∃ k : Nat, i = .int .i64 k ∧ k ≤ L.length ∧ Filled wx w11.heap.size L.length k ∧ Below w11.heap.size w11 wx) (fun i _ => L.length - (intOf i).toNat)
          case atStart => exact ⟨0, rfl, Nat.zero_le _, Filled.new _ _, (Below.refl _ _).alloc (Nat.le_refl _) _⟩
          case round =>
            obtain ⟨k, rfl, hk, hf, hb⟩ := hrel
            by_cases hlt : k < L.length
            · have y0 := hf.cell hlt
              obtain ⟨y1, y2⟩ := hf.at
              have hf2 := Lib.hid (hf.set hlt)
              have hb2 := Lib.hid (hb.setCell (p := ⟨w11.heap.size, k, none⟩) (Nat.le_refl _) (.bool true))
              clear hf
              go_wp2_with (fail)
              go_roundw
              case rel => exact ⟨k + 1, by go_num, by omega, hf2.out, hb2.out⟩
              case measure => simp [intOf]; omega
            · obtain rfl : k = L.length := by omega
              have p12 := p11.pass hb
              have k12 := k11.below hb
              have v12 := v11.below hb
              have q12 := q11.below hb
              have pb12 : Mine w wr g' F2' K S L := p12.b
              have C := crash_calls pb12.dev HINV.out.pos (by omega) (by have := HKL.out; omega) HINV.out.len (some ⟨w11.heap.size, 0, none⟩) (List.replicate L.length true) L.length hf.cel (by rw [List.length_replicate]; omega) (fun ad e _ h => by
                injection e with e
                subst e
                have := p11.b.dev.lt _ h
                exact Nat.lt_irrefl _ this)
              rw [List.length_replicate, crash_all, ← HINV.out.seen] at C
              clear hf
              go_wp2_with (fail)
              refine C.mono ?_
              rintro e w13 ⟨rfl, t⟩
              obtain ⟨F13, p13, tr⟩ := p12.turnB (m2 := ⟨S, S, []⟩) t
              have k13 := tr _ _ _ _ _ _ k12
              have v13 := tr _ _ _ _ _ _ v12
              have q13 := tr _ _ _ _ _ _ q12
              clear t tr C k12 v12 q12 p12 pb12 k11 v11 q11 p11 hb
              have pa13 : Mine w w13 g F11 Z Z [] := p13.a
              have C := words_calls pa13.dev (by have := HZL.out; omega)
              rw [HZL.out] at C
              go_wp2_with (fail)
              refine C.mono ?_
              rintro e w14 ⟨A14, c14, rfl, o14, b14, l14⟩
              have z14 := Own2.of_cloned o14 l14 p13
              have p14 := p13.pass b14
              have k14 := k13.below b14
              have v14 := v13.below b14
              have q14 := q13.below b14
              clear C o14 l14 pa13 p13 k13 v13 q13
              have pb14 : Mine w w14 g' F13 S S [] := p14.b
              have C := words_calls pb14.dev (by have := HSL.out; omega)
              rw [HSL.out] at C
              go_wp2_with (fail)
              refine C.mono ?_
              rintro e w15 ⟨A15, c15, rfl, o15, b15, l15⟩
              have p15 := p14.pass b15
              have k15 := k14.below b15
              have v15 := v14.below b15
              have q15 := q14.below b15
              have z15 := z14.below b15
              clear C pb14 p14 k14 v14 q14 z14 b14
              have C := same_self A15 A4 S c15 c4 w15 o15.row v15.own.row (by have := HSL.out; omega)
              rw [HSL.out] at C
              go_wp2_with (fail)
              refine C.mono ?_
              rintro e w16 ⟨rfl, b16, _⟩
              have p16 := p15.pass b16
              have k16 := k15.below b16
              have v16 := v15.below b16
              have q16 := q15.below b16
              have z16 := z15.below b16
              clear C o15 p15 k15 v15 q15 z15 b15
              have pb16 : Mine w w16 g' F13 S S [] := p16.b
              have C := kept_calls pb16.dev (by have := HSL.out; omega)
              rw [HSL.out] at C
              go_wp2_with (fail)
              refine C.mono ?_
              rintro e w17 ⟨A17, c17, rfl, o17, b17, l17⟩
              have p17 := p16.pass b17
              have k17 := k16.below b17
              have v17 := v16.below b17
              have q17 := q16.below b17
              have z17 := z16.below b17
              clear C pb16 p16 k16 v16 q16 z16 b16
              have C := same_self A17 A4 S c17 c4 w17 o17.row v17.own.row (by have := HSL.out; omega)
              rw [HSL.out] at C
              go_wp2_with (fail)
              refine C.mono ?_
              rintro e w18 ⟨rfl, b18, _⟩
              have p18 := p17.pass b18
              have k18 := k17.below b18
              have q18 := q17.below b18
              have z18 := z17.below b18
              clear C o17 p17 k17 v17 q17 z17 b17
              have pa18 : Mine w w18 g F11 Z Z [] := p18.a
              go_wp2_with (fail)
              refine (pending_calls pa18.dev (by decide)).mono ?_
              rintro e w19 ⟨A19, c19, rfl, _, b19, _⟩
              have hB19 := (p18.pass b19).a.below
              have k19 := (k18.below b19).own
              have q19 := (q18.below b19).own
              have z19 := (z18.below b19).own
              clear pa18 p18 k18 q18 z18 b18 b19
              obtain ⟨_, gk, rfl, bk⟩ := k19.blkp (by omega)
              obtain ⟨_, gz, rfl, bz⟩ := z19.blkp (by omega)
              clear k19 z19
              go_wp2_with (fail)
              go_loopw [19] (fun i wx => ∃ a : Nat, i = .int .i64 a ∧ a ≤ N ∧ ∃ q, wx = w19.drewN q) (fun i _ => N - (intOf i).toNat)
              case atStart => exact ⟨0, rfl, Nat.zero_le _, 0, rfl⟩
              case round =>
                obtain ⟨a, rfl, ha, q, rfl⟩ := hrel
                by_cases haN : a < N
                · have y0 := bk.cell a (by have := HKL.out; omega)
                  have y1 := bz.cell a (by have := HZL.out; omega)
                  have HF0 := Lib.hid (fineV_zero K Z L a)
                  have HF1 := Lib.hid (fun k hk => fineV_succ K Z L a k hk)
                  have HF2 := Lib.hid (HFE.out a (by have := HKL.out; omega))
                  have hfz : Hid (decide (((Z.getD a 0 : Nat) : Int) = ((K.getD a 0 : Nat) : Int)) = (Z.getD a 0 == K.getD a 0)) := Lib.hid (by rw [Bool.eq_iff_iff, decide_eq_true_eq, beq_iff_eq]; omega)
                  generalize hz : Z.getD a 0 = z at *
                  generalize hkk : K.getD a 0 = kk at *
                  clear hz hkk
                  have iaN : (a : Int) < (N : Int) := by omega
                  go_wp2_with (fail)
                  go_quiet (fail)
                  go_wp2_with (fail)
                  go_loopw [20, 21] (fun fv iv wx => ∃ k : Nat, iv = .int .i64 k ∧ k ≤ L.length ∧ fv = .bool (fineV K Z L a k) ∧ ∃ q, wx = w19.drewN q) (fun _ iv _ => L.length - (intOf iv).toNat)
                  case atStart =>
                    refine ⟨0, rfl, Nat.zero_le _, ?_, q + nq, by simp [World.drewN, Nat.add_assoc]⟩
                    rw [HF0.out, ← hfz.out]
                    rfl
                  case round =>
                    obtain ⟨k, rfl, hk, rfl, q2, rfl⟩ := hrel
                    by_cases hlt : k < L.length
                    · obtain ⟨gp, rfl, x0, x1, _⟩ := own_at q19 hlt
                      have HS := Lib.hid (HF1.out k hlt)
                      generalize hp : L.getD k p0 = p at *
                      clear hp
                      cases hfv : fineV K Z L a k
                      · rw [hfv] at HS
                        by_cases hp1 : p.pos = a
                        · rw [hp1] at x0 HS
                          by_cases hp2 : p.word = z
                          · rw [hp2] at x1 HS
                            have HS2 := Lib.hid (show fineV K Z L a (k + 1) = true by rw [HS.out]; simp)
                            clear hfv HS hp1 hp2
                            go_wp2_with (fail)
                            go_quiet (fail)
                            go_wp2_with (fail)
                            go_roundw
                            case rel => exact ⟨k + 1, by go_num, by omega, by rw [HS2.out], _, rfl⟩
                            case measure => simp [intOf]; omega
                          · have HS2 := Lib.hid (show fineV K Z L a (k + 1) = false by rw [HS.out]; simp [hp2])
                            have hq2 : ((p.word : Int) == (z : Int)) = false := by rw [beq_eq_false_iff_ne]; omega
                            clear hfv HS hp1 hp2
                            go_wp2_with (fail)
                            go_quiet (fail)
                            go_wp2_with (fail)
                            go_roundw
                            case rel => exact ⟨k + 1, by go_num, by omega, by rw [HS2.out], _, rfl⟩
                            case measure => simp [intOf]; omega
                        · have HS2 := Lib.hid (show fineV K Z L a (k + 1) = false by rw [HS.out]; simp [hp1])
                          have hq1 : ((p.pos : Int) == (a : Int)) = false := by rw [beq_eq_false_iff_ne]; omega
                          clear hfv HS hp1
                          go_wp2_with (fail)
                          go_quiet (fail)
                          go_wp2_with (fail)
                          go_roundw
                          case rel => exact ⟨k + 1, by go_num, by omega, by rw [HS2.out], _, rfl⟩
                          case measure => simp [intOf]; omega
                      · rw [hfv] at HS
                        have HS2 := Lib.hid (show fineV K Z L a (k + 1) = true by rw [HS.out]; simp)
                        clear hfv HS
                        go_wp2_with (fail)
                        go_quiet (fail)
                        go_wp2_with (fail)
                        go_roundw
                        case rel => exact ⟨k + 1, by go_num, by omega, by rw [HS2.out], _, rfl⟩
                        case measure => simp [intOf]; omega
                    · obtain rfl : k = L.length := by omega
                      rw [HF2.out]
                      go_wp2_with (fail)
                      go_roundw
                      case rel => exact ⟨a + 1, by go_num, by omega, _, rfl⟩
                      case measure => simp [intOf]; omega
                · obtain rfl : a = N := by omega
                  go_wp2_with (fail)
                  refine (alive_calls _).mono ?_
                  rintro e w21 ⟨rfl, b21⟩
                  go_wp2_with (fail)
                  go_ret
                  exact ⟨rfl, (below_drewN hB19 q).trans (b21.mono (by exact hB19.size))⟩
  · clear hb1
    go_wp2_with (fail)
    refine (alive_calls w).mono ?_
    rintro e w1 ⟨rfl, hb⟩
    go_wp2_with (fail)
    go_ret
    exact ⟨rfl, hb⟩
end Go.Proofs.Ytghppmgieljgiaa
