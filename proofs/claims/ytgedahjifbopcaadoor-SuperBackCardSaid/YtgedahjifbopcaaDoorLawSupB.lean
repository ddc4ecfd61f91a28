/- SuperBack: whatever it is called with, it hands back true; nothing that was there has turned. -/
import Derived.Test.YtgedahjifbopcaaDoorSupAlive
import Derived.Test.YtgedahjifbopcaaDoorLawSupW
import Derived.Test.YtgedahjifbopcaaDoorTurnMath
namespace Go.Proofs.YtgedahjifbopcaaDoor
open Go.RowKit SumMath WordMath
theorem flip_bit (x b : Nat) (hx : x < 18446744073709551616) (hb : b < 64) : bits .xor .u64 (x : Int) (IntKind.u64.wrap ((2 : Int) ^ b)) = ((x ^^^ 2 ^ b : Nat) : Int) := by
  have h : 2 ^ b < 18446744073709551616 := by
    have := Nat.pow_lt_pow_right (a := 2) (by decide) hb
    simpa using this
  have e : IntKind.u64.wrap ((2 : Int) ^ b) = ((2 ^ b : Nat) : Int) := by
    have e2 : ((2 : Int) ^ b) = ((2 ^ b : Nat) : Int) := by simp
    rw [e2, IntKind.wrap_u64]; exact Int.emod_eq_of_lt (Int.natCast_nonneg _) (Int.ofNat_lt.2 h)
  rw [e, u64_xor_nat _ _ hx h]
/-- With some of 32 bits in a row turned it is no superblock; with none it is. -/
theorem turned_bad {P I B : Nat} {hi : Bool} {k t : Nat} {Y : List Nat} (hg : GOK P I B) (h : Turned (superL P I B (hN hi)) k t 32 Y) (ht : t < 4294967296) : (badAt Y).isNone = decide (t = 0) := by
  have hf : Fits P I B (hN hi) := gok_fits hg
  by_cases h0 : t = 0
  · subst h0
    rw [h.same (super_wd hf), (super_good hf hg).1]
    rfl
  · have hn : ¬ isSealed Y := Turned.told (sup_wd hf) h ht h0
    have hb : badAt Y ≠ none := fun hb => hn (good_eq hb).1.shut
    rw [decide_eq_false h0]
    cases hY : badAt Y with
    | none => exact absurd hY hb
    | some k => rfl
/-- What is read again. -/
theorem again_calls (l : List Nat) (hl : Wd l) : ∃ (P I B : Int) (b : Bool), ∀ A c w, Row w A l → l.length ≤ c → TabAt w → ErrAt w → Calls Tryd.prog 14 #[.slice A l.length c] w fun e w' => e = .returned (.tuple #[gv P I B, .bool b, errV (badAt l)]) ∧ Below w.heap.size w w' := by
  cases hb : badAt l with
  | none => exact ⟨fP (l.getD 1 0), fI (l.getD 1 0), fB (l.getD 1 0), hB (l.getD 1 0), fun A c w hr hc hT _ => decode_good A l c w hb hr hl hc hT⟩
  | some k => exact ⟨0, 0, 0, false, fun A c w hr hc hT hE => decode_bad A l c w k hb hr hl hc hT hE⟩
theorem hB_fields {P I B : Nat} {hi : Bool} (hf : Fits P I B (hN hi)) : hB (fieldsW P I B (hN hi)) = hi := by
  unfold hB
  rw [(f_of hf).2.2.2]
  cases hi <;> rfl
theorem dec_back {P I B : Nat} {hi : Bool} (hg : GOK P I B) (A : Option Addr) (c : Nat) (w : World) (hr : Row w A (superL P I B (hN hi))) (hc : (superL P I B (hN hi)).length ≤ c) (hT : TabAt w) :
    Calls Tryd.prog 14 #[.slice A (superL P I B (hN hi)).length c] w fun e w' => e = .returned (.tuple #[gv P I B, .bool hi, .nilIface]) ∧ Below w.heap.size w w' := by
  have hf : Fits P I B (hN hi) := gok_fits hg
  have h := decode_good A (superL P I B (hN hi)) c w (super_good hf hg).1 hr (super_wd hf) hc hT
  obtain ⟨q1, q2, q3, _⟩ := f_of hf
  rw [show (superL P I B (hN hi)).getD 1 0 = fieldsW P I B (hN hi) from rfl, q1, q2, q3, hB_fields hf] at h
  exact h
set_option maxRecDepth 100000 in
set_option maxHeartbeats 4000000 in
theorem back_bad (P I B : Int) (hi : Bool) (p t : Nat) (A : Option Addr) (l : List Nat) (c : Nat) (w : World) (_hp : p < 65536) (_ht : t < 4294967296) (hg : ¬ GOK P I B) (hr : Row w A l) (hl : Wd l) (hlen : l.length ≤ 40) (_hcap : l.length ≤ c) (hT : TabAt w) (hE : ErrAt w) :
    Calls Tryd.prog 5 #[gv P I B, .bool hi, .int .u16 (p : Nat), .int .u32 (t : Nat), .slice A l.length c] w fun e w' => e = .returned (.bool true) ∧ Below w.heap.size w w' := by
  have HT := Lib.hid hT
  have HE := Lib.hid hE
  have HG := Lib.hid hg
  clear hT hE hg
  obtain ⟨i0, hi0, hz0, hs0, hb0⟩ := info_parts u64_info
  have HZ := Lib.hid hz0
  have HS := Lib.hid hs0
  have HB := Lib.hid hb0
  have HI := Lib.hid hi0
  clear hz0 hs0 hb0 hi0
  have hon : On w (w.alloc (.cells #[.int .i64 (P : Int), .int .i64 (I : Int), .int .i64 (B : Int)] 23)) := On.alloc _ _
  have G0 : (w.alloc (.cells #[.int .i64 (P : Int), .int .i64 (I : Int), .int .i64 (B : Int)] 23)).heap[w.heap.size]? = some (.cells #[.int .i64 (P : Int), .int .i64 (I : Int), .int .i64 (B : Int)] 23) := heap_alloc_new w _
  have hr0 := hr.below hon
  have hon := Lib.hid hon
  have G0 := Lib.hid G0
  have h40 : ((l.length : Nat) : Int) ≤ 40 := by omega
  cases hbad : badAt l
  case' some k =>
    have hD := fun A c w hr hc hT hE => decode_bad A l c w k hbad hr hl hc hT hE
    have HD := Lib.hid hD
    clear hD hbad
    unfold errV at HD
    go_enter Tryd.func5, Tryd.ntmps5
    go_wp2_with (at_builtin; refine wpList_cloneC rfl (.const (.slice none 0 0)) (.tmp 28) 24 rfl 42 i0 Tryd.underlying24 HI.out HZ.out HS.out HB.out A l c rfl rfl hr0 (by omega) ?_; intro A1 c1 w1 hr1 hf1 hb1 _ hc1)
    have bw1 := Below.trans hon.out (hb1.mono (Below.size hon.out))
    have G1 := (hb1.block _ (lt_of_cells G0.out)).trans G0.out
    refine (HD.out A1 c1 w1 hr1 hc1 (HT.out.below bw1) (HE.out.below bw1)).mono ?_
    rintro e w2 ⟨rfl, hb2⟩
    have hb2a := hb2.alloc (o := .cells #[.int .i64 0, .int .i64 0, .int .i64 0] 23) hb2.size
    have bX := bw1.trans (hb2a.mono bw1.size)
    have GX := Lib.hid ((hb2a.block _ (lt_of_cells G1)).trans G1)
    obtain ⟨g0, g1, g2⟩ := three_cells (((Below.block hb2 _ (lt_of_cells G1)).trans G1))
    have hgl := lt_of_cells (((Below.block hb2 _ (lt_of_cells G1)).trans G1))
    clear hb2 hb2a hr1 hf1 hb1 hc1 bw1 G1 HD hr0 hon G0
    go_wp2_with (fail)
    generalize w2.alloc (.cells #[.int .i64 0, .int .i64 0, .int .i64 0] 23) = wX at *
    clear g0 g1 g2 hgl
  case' none =>
    obtain ⟨hSl, hGd, hol⟩ := good_eq hbad
    have hD := fun A c w hr hc hT => decode_good A l c w hbad hr hl hc hT
    have hE2 := fun W hW => encode_ok (fP (l.getD 1 0)) (fI (l.getD 1 0)) (fB (l.getD 1 0)) (hB (l.getD 1 0)) W hGd hW
    rw [hN_hB] at hE2
    rw [show superL (fP (l.getD 1 0)) (fI (l.getD 1 0)) (fB (l.getD 1 0)) (fH (l.getD 1 0)) = l from hol.symm] at hE2
    have HD := Lib.hid hD
    have HE2 := Lib.hid hE2
    have kss := Lib.hid (sameV_self l)
    clear hD hE2 hbad hSl hGd hol
    generalize l.getD 1 0 = f at *
    go_enter Tryd.func5, Tryd.ntmps5
    go_wp2_with (at_builtin; refine wpList_cloneC rfl (.const (.slice none 0 0)) (.tmp 28) 24 rfl 42 i0 Tryd.underlying24 HI.out HZ.out HS.out HB.out A l c rfl rfl hr0 (by omega) ?_; intro A1 c1 w1 hr1 hf1 hb1 _ hc1)
    have bw1 := Below.trans hon.out (hb1.mono (Below.size hon.out))
    have G1 := (hb1.block _ (lt_of_cells G0.out)).trans G0.out
    refine (HD.out A1 c1 w1 hr1 hc1 (HT.out.below bw1)).mono ?_
    rintro e w2 ⟨rfl, hb2⟩
    have hb2a := hb2.alloc (o := .cells #[.int .i64 (fP f : Nat), .int .i64 (fI f : Nat), .int .i64 (fB f : Nat)] 23) hb2.size
    have bw2 := bw1.trans (hb2a.mono bw1.size)
    have G2 := Lib.hid ((hb2a.block _ (lt_of_cells G1)).trans G1)
    have hrl2 := (hr.below bw2)
    clear hb2 hb2a hr1 hf1 hb1 hc1 bw1 G1 HD hr0 hon G0
    go_wp2_with (fail)
    refine (HE2.out _ (HT.out.below bw2)).mono ?_
    rintro e w4 ⟨A4, c4, rfl, hr4, hf4, hb4, hc4⟩
    have bw4 := bw2.trans (hb4.mono bw2.size)
    have G4 := Lib.hid ((hb4.block _ (lt_of_cells G2.out)).trans G2.out)
    have hrl4 := hrl2.below hb4
    clear hb4 hrl2 G2 bw2 hf4 hc4
    go_wp2_with (fail)
    refine (same_calls A4 A l l c4 c w4 hr4 hrl4 (by omega) (by omega)).mono ?_
    rintro e w5 ⟨rfl, m, rfl⟩
    rw [kss.out]
    have bX := below_drewN bw4 m
    have GX0 : (w4.drewN m).heap[w.heap.size]? = some (.cells #[.int .i64 (P : Int), .int .i64 (I : Int), .int .i64 (B : Int)] 23) := G4.out
    obtain ⟨g0, g1, g2⟩ := three_cells GX0
    have hgl := lt_of_cells GX0
    have GX := Lib.hid GX0
    clear GX0 hr4 hrl4 bw4 G4
    generalize w4.drewN m = wX at *
    go_wp2_with (fail)
    clear g0 g1 g2 hgl
  all_goals
    refine (encode_bad P I B hi _ HG.out).mono ?_
    rintro e w5 ⟨rfl, hb5⟩
    have bw5 := bX.trans (hb5.mono bX.size)
    clear hb5 GX
    go_wp2_with (fail)
    refine (alive_calls _ (HT.out.below bw5) (HE.out.below bw5)).mono ?_
    rintro e w6 ⟨rfl, hb6⟩
    go_wp2_with (fail)
    go_ret
    exact ⟨rfl, bw5.trans (hb6.mono bw5.size)⟩
set_option maxRecDepth 100000 in
set_option maxHeartbeats 4000000 in
theorem back_good (P I B : Nat) (hi : Bool) (p t : Nat) (A : Option Addr) (l : List Nat) (c : Nat) (w : World) (hp : p < 65536) (ht : t < 4294967296) (hg : GOK P I B) (hr : Row w A l) (hl : Wd l) (hlen : l.length ≤ 40) (_hcap : l.length ≤ c) (hT : TabAt w) (hE : ErrAt w) :
    Calls Tryd.prog 5 #[gv P I B, .bool hi, .int .u16 (p : Nat), .int .u32 (t : Nat), .slice A l.length c] w fun e w' => e = .returned (.bool true) ∧ Below w.heap.size w w' := by
  have HT := Lib.hid hT
  have HE := Lib.hid hE
  have HG := Lib.hid hg
  clear hT hE hg
  obtain ⟨i0, hi0, hz0, hs0, hb0⟩ := info_parts u64_info
  have HZ := Lib.hid hz0
  have HS := Lib.hid hs0
  have HB := Lib.hid hb0
  have HI := Lib.hid hi0
  clear hz0 hs0 hb0 hi0
  have hon : On w (w.alloc (.cells #[.int .i64 (P : Nat), .int .i64 (I : Nat), .int .i64 (B : Nat)] 23)) := On.alloc _ _
  have G0 : (w.alloc (.cells #[.int .i64 (P : Nat), .int .i64 (I : Nat), .int .i64 (B : Nat)] 23)).heap[w.heap.size]? = some (.cells #[.int .i64 (P : Nat), .int .i64 (I : Nat), .int .i64 (B : Nat)] 23) := heap_alloc_new w _
  have hr0 := hr.below hon
  have hon := Lib.hid hon
  have G0 := Lib.hid G0
  have h40 : ((l.length : Nat) : Int) ≤ 40 := by omega
  obtain ⟨s, hs⟩ : ∃ s, superL P I B (hN hi) = s := ⟨_, rfl⟩
  have HL : Hid (s.length = 8) := Lib.hid (by rw [← hs]; rfl)
  have HW : Hid (Wd s) := Lib.hid (by rw [← hs]; exact super_wd (gok_fits HG.out))
  have HDB : Hid (∀ A c w, Row w A s → s.length ≤ c → TabAt w → Calls Tryd.prog 14 #[.slice A s.length c] w fun e w' => e = .returned (.tuple #[gv P I B, .bool hi, .nilIface]) ∧ Below w.heap.size w w') := Lib.hid (by rw [← hs]; exact fun A c w hr hc hT => dec_back HG.out A c w hr hc hT)
  have HTB : Hid (∀ k Y, Turned s k t 32 Y → (badAt Y).isNone = decide (t = 0)) := Lib.hid (by rw [← hs]; exact fun k Y h => turned_bad HG.out h ht)
  cases hbad : badAt l
  case' some k =>
    have hD := fun A c w hr hc hT hE => decode_bad A l c w k hbad hr hl hc hT hE
    have HD := Lib.hid hD
    clear hD hbad
    unfold errV at HD
    go_enter Tryd.func5, Tryd.ntmps5
    go_wp2_with (at_builtin; refine wpList_cloneC rfl (.const (.slice none 0 0)) (.tmp 28) 24 rfl 42 i0 Tryd.underlying24 HI.out HZ.out HS.out HB.out A l c rfl rfl hr0 (by omega) ?_; intro A1 c1 w1 hr1 hf1 hb1 _ hc1)
    have bw1 := Below.trans hon.out (hb1.mono (Below.size hon.out))
    have G1 := (hb1.block _ (lt_of_cells G0.out)).trans G0.out
    refine (HD.out A1 c1 w1 hr1 hc1 (HT.out.below bw1) (HE.out.below bw1)).mono ?_
    rintro e w2 ⟨rfl, hb2⟩
    have hb2a := hb2.alloc (o := .cells #[.int .i64 0, .int .i64 0, .int .i64 0] 23) hb2.size
    have bX := bw1.trans (hb2a.mono bw1.size)
    have GX := Lib.hid ((hb2a.block _ (lt_of_cells G1)).trans G1)
    obtain ⟨g0, g1, g2⟩ := three_cells (((Below.block hb2 _ (lt_of_cells G1)).trans G1))
    have hgl := lt_of_cells (((Below.block hb2 _ (lt_of_cells G1)).trans G1))
    clear hb2 hb2a hr1 hf1 hb1 hc1 bw1 G1 HD hr0 hon G0
    go_wp2_with (fail)
    generalize w2.alloc (.cells #[.int .i64 0, .int .i64 0, .int .i64 0] 23) = wX at *
    clear g0 g1 g2 hgl
  case' none =>
    obtain ⟨hSl, hGd, hol⟩ := good_eq hbad
    have hD := fun A c w hr hc hT => decode_good A l c w hbad hr hl hc hT
    have hE2 := fun W hW => encode_ok (fP (l.getD 1 0)) (fI (l.getD 1 0)) (fB (l.getD 1 0)) (hB (l.getD 1 0)) W hGd hW
    rw [hN_hB] at hE2
    rw [show superL (fP (l.getD 1 0)) (fI (l.getD 1 0)) (fB (l.getD 1 0)) (fH (l.getD 1 0)) = l from hol.symm] at hE2
    have HD := Lib.hid hD
    have HE2 := Lib.hid hE2
    have kss := Lib.hid (sameV_self l)
    clear hD hE2 hbad hSl hGd hol
    generalize l.getD 1 0 = f at *
    go_enter Tryd.func5, Tryd.ntmps5
    go_wp2_with (at_builtin; refine wpList_cloneC rfl (.const (.slice none 0 0)) (.tmp 28) 24 rfl 42 i0 Tryd.underlying24 HI.out HZ.out HS.out HB.out A l c rfl rfl hr0 (by omega) ?_; intro A1 c1 w1 hr1 hf1 hb1 _ hc1)
    have bw1 := Below.trans hon.out (hb1.mono (Below.size hon.out))
    have G1 := (hb1.block _ (lt_of_cells G0.out)).trans G0.out
    refine (HD.out A1 c1 w1 hr1 hc1 (HT.out.below bw1)).mono ?_
    rintro e w2 ⟨rfl, hb2⟩
    have hb2a := hb2.alloc (o := .cells #[.int .i64 (fP f : Nat), .int .i64 (fI f : Nat), .int .i64 (fB f : Nat)] 23) hb2.size
    have bw2 := bw1.trans (hb2a.mono bw1.size)
    have G2 := Lib.hid ((hb2a.block _ (lt_of_cells G1)).trans G1)
    have hrl2 := (hr.below bw2)
    clear hb2 hb2a hr1 hf1 hb1 hc1 bw1 G1 HD hr0 hon G0
    go_wp2_with (fail)
    refine (HE2.out _ (HT.out.below bw2)).mono ?_
    rintro e w4 ⟨A4, c4, rfl, hr4, hf4, hb4, hc4⟩
    have bw4 := bw2.trans (hb4.mono bw2.size)
    have G4 := Lib.hid ((hb4.block _ (lt_of_cells G2.out)).trans G2.out)
    have hrl4 := hrl2.below hb4
    clear hb4 hrl2 G2 bw2 hf4 hc4
    go_wp2_with (fail)
    refine (same_calls A4 A l l c4 c w4 hr4 hrl4 (by omega) (by omega)).mono ?_
    rintro e w5 ⟨rfl, m, rfl⟩
    rw [kss.out]
    have bX := below_drewN bw4 m
    have GX0 : (w4.drewN m).heap[w.heap.size]? = some (.cells #[.int .i64 (P : Nat), .int .i64 (I : Nat), .int .i64 (B : Nat)] 23) := G4.out
    obtain ⟨g0, g1, g2⟩ := three_cells GX0
    have hgl := lt_of_cells GX0
    have GX := Lib.hid GX0
    clear GX0 hr4 hrl4 bw4 G4
    generalize w4.drewN m = wX at *
    go_wp2_with (fail)
    clear g0 g1 g2 hgl
  all_goals
    have hEO := encode_own P I B hi wX HG.out (HT.out.below bX)
    rw [hs] at hEO
    refine hEO.mono ?_
    rintro e w5 ⟨A5, c5, rfl, hr5, hf5, hb5, hc5, g5, rfl, hB5⟩
    clear hEO
    obtain ⟨g5', e5, hg5⟩ := hf5 _ rfl
    injection e5 with e5
    subst e5
    rw [HL.out] at hc5 ⊢
    have bw5 := bX.trans (hb5.mono bX.size)
    have G5 := (hb5.block _ (lt_of_cells GX.out)).trans GX.out
    have hwg : w.heap.size < g5 := Nat.lt_of_lt_of_le (lt_of_cells GX.out) hg5
    clear hb5 GX bX hf5
    go_wp2_with (at_builtin; refine wpList_cloneC rfl (.const (.slice none 0 0)) (.tmp 65) 24 rfl 42 i0 Tryd.underlying24 HI.out HZ.out HS.out HB.out (some ⟨g5, 0, none⟩) s c5 rfl (by rw [HL.out]; rfl) hr5 (by rw [HL.out]; decide) ?_; intro A6 c6 w6 hr6 hf6 hb6 _ hc6; rw [HL.out])
    have bw6 := bw5.trans (hb6.mono bw5.size)
    have hD6 := HDB.out A6 c6 w6 hr6 hc6 (HT.out.below bw6)
    rw [HL.out] at hD6
    refine hD6.mono ?_
    clear hD6
    rintro e w7 ⟨rfl, hb7⟩
    have hb7a := hb7.alloc (o := .cells #[.int .i64 (P : Nat), .int .i64 (I : Nat), .int .i64 (B : Nat)] 23) hb7.size
    have bw8 := bw6.trans (hb7a.mono bw6.size)
    have G7 := (hb7.block _ (lt_of_cells ((hb6.block _ (lt_of_cells G5)).trans G5))).trans ((hb6.block _ (lt_of_cells G5)).trans G5)
    obtain ⟨g0, g1, g2⟩ := three_cells G7
    have hgl := lt_of_cells G7
    have hB8 := (hB5.below hb6 hB5.lt).below hb7a (hB5.below hb6 hB5.lt).lt
    clear hb6 hb7 hb7a hr5 hr6 hf6 hc6 bw5 bw6 G5 hB5 G7
    obtain ⟨k, hk, hk2⟩ : ∃ k : Nat, (p : Int) % 481 = (k : Int) ∧ k ≤ 480 := ⟨p % 481, by simp, by omega⟩
    have hk := Lib.hid hk
    go_wp2_with (fail)
    rw [hk.out]
    clear g0 g1 g2 hgl
    generalize w7.alloc (.cells #[.int .i64 (P : Nat), .int .i64 (I : Nat), .int .i64 (B : Nat)] 23) = w8 at *
    go_loopw [22] (fun i wr => ∃ (j : Nat) (Y : List Nat), i = .int .i64 j ∧ j ≤ 32 ∧ Turned s k t j Y ∧ Blk 42 wr g5 Y ∧ Below w.heap.size w wr) (fun i _ => 32 - (intOf i).toNat)
    case atStart => exact ⟨0, _, rfl, by omega, Turned.zero HW.out k t, hB8, bw8⟩
    case round =>
      obtain ⟨j, Y, rfl, hj, hTu, hBk, hb⟩ := hrel
      have hlen2 := hTu.len
      rw [HL.out] at hlen2
      by_cases hj32 : j < 32
      · by_cases hbit : t / 2 ^ j % 2 = 1
        · have hI : (k + j) / 64 < Y.length := by omega
          have hI8 : (k + j) / 64 < 8 := by omega
          have hI8' : ((k : Int) + (j : Int)) / 64 < 8 := by omega
          have hcl := hBk.cell _ hI
          have hfz := hBk.frozen ((k + j) / 64)
          have hwd := hTu.wd ((k + j) / 64)
          have ht2 := Lib.hid (hTu.turn hbit (by rw [HL.out]; omega))
          have hset := Lib.hid (hBk.set ((k + j) / 64) (Y.getD ((k + j) / 64) 0 ^^^ 2 ^ ((k + j) % 64)))
          have hb1 : (((t : Int) / 2 ^ j).tmod 2 == 1) = true := by
            rw [beq_iff_eq]
            have : ((t : Int) / 2 ^ j) = ((t / 2 ^ j : Nat) : Int) := by simp
            rw [this, Int.tmod_eq_emod_of_nonneg (Int.natCast_nonneg _)]; omega
          clear hbit hI hlen2
          generalize Y.getD ((k + j) / 64) 0 = x at *
          go_wp2_with (fail)
          go_roundw
          case rel =>
            rw [flip_bit x _ hwd (Nat.mod_lt _ (by decide))]
            exact ⟨j + 1, _, by go_num, by omega, ht2.out, hset.out, hb.setCell (p := ⟨g5, (k + j) / 64, none⟩) (Nat.le_of_lt hwg) _⟩
          case measure => simp [intOf]; omega
        · have ht2 := hTu.skip hbit
          have hb1 : (((t : Int) / 2 ^ j).tmod 2 == 1) = false := by
            rw [beq_eq_false_iff_ne]
            have : ((t : Int) / 2 ^ j) = ((t / 2 ^ j : Nat) : Int) := by simp
            rw [this, Int.tmod_eq_emod_of_nonneg (Int.natCast_nonneg _)]; omega
          clear hbit hlen2
          go_wp2_with (fail)
          go_roundw
          case rel => exact ⟨j + 1, _, by go_num, by omega, ht2, hBk, hb⟩
          case measure => simp [intOf]; omega
      · obtain rfl : j = 32 := by omega
        have htb := HTB.out k Y hTu
        have hY := hTu.wd
        obtain ⟨Q1, Q2, Q3, Q4, hAg⟩ := again_calls Y hY
        have hA8 := hAg (some ⟨g5, 0, none⟩) c5 wr hBk.row (by rw [hlen2]; exact hc5) (HT.out.below hb) (HE.out.below hb)
        rw [hlen2] at hA8
        have hte : ((t : Int) == 0) = decide (t = 0) := by
          by_cases h0 : t = 0
          · subst h0; rfl
          · rw [decide_eq_false h0, beq_eq_false_iff_ne]; omega
        rw [← htb] at hte
        have HTE := Lib.hid hte
        have HA8 := Lib.hid hA8
        clear hTu hY hAg htb hte hA8 hlen2
        cases hbY : badAt Y
        all_goals
          rw [hbY] at HTE HA8
          unfold errV at HA8
          simp only [Option.isNone_none, Option.isNone_some] at HTE
          go_wp2_with (fail)
          refine HA8.out.mono ?_
          rintro e w9 ⟨rfl, hb9⟩
          have bw9 := hb.trans (hb9.mono hb.size)
          have hte := HTE.out
          go_wp2_with (fail)
          refine (alive_calls _ (HT.out.below bw9) (HE.out.below bw9)).mono ?_
          rintro e w10 ⟨rfl, hb10⟩
          go_wp2_with (fail)
          go_ret
          exact ⟨rfl, bw9.trans (hb10.mono bw9.size)⟩
theorem supback_calls (P I B : Int) (hi : Bool) (p t : Int) (A : Option Addr) (l : List Nat) (c : Nat) (w : World) (p0 : 0 ≤ p) (p1 : p < 65536) (t0 : 0 ≤ t) (t1 : t < 4294967296) (hr : Row w A l) (hl : Wd l) (hlen : l.length ≤ 9223372036854775807) (hcap : l.length ≤ c) (hT : TabAt w) (hE : ErrAt w) :
    Calls Tryd.prog 5 #[gv P I B, .bool hi, .int .u16 p, .int .u32 t, .slice A l.length c] w fun e w' => e = .returned (.bool true) ∧ Below w.heap.size w w' := by
  by_cases h40 : 40 < l.length
  · have HT := Lib.hid hT
    have HE := Lib.hid hE
    have hon : On w (w.alloc (.cells #[.int .i64 P, .int .i64 I, .int .i64 B] 23)) := On.alloc _ _
    have hon := Lib.hid hon
    clear hT hE
    go_enter Tryd.func5, Tryd.ntmps5
    go_wp2_with (fail)
    refine (alive_calls _ (HT.out.below hon.out) (HE.out.below hon.out)).mono ?_
    rintro e w' ⟨rfl, hb⟩
    go_wp2_with (fail)
    go_ret
    exact ⟨rfl, Below.trans hon.out (hb.mono (Below.size hon.out))⟩
  · obtain ⟨p, rfl⟩ := Int.eq_ofNat_of_zero_le p0
    obtain ⟨t, rfl⟩ := Int.eq_ofNat_of_zero_le t0
    by_cases hg : GOK P I B
    · obtain ⟨p', q', r', rfl, rfl, rfl⟩ := gok_nat hg
      exact back_good p' q' r' hi p t A l c w (by omega) (by omega) hg hr hl (by omega) hcap hT hE
    · exact back_bad P I B hi p t A l c w (by omega) (by omega) hg hr hl (by omega) hcap hT hE
end Go.Proofs.YtgedahjifbopcaaDoor
