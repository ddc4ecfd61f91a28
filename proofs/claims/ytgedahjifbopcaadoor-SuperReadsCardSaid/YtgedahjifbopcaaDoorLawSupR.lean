/- SuperReads: whatever it is called with, it hands back true; nothing that was there has turned. -/
import Derived.Test.YtgedahjifbopcaaDoorSupAlive
namespace Go.Proofs.YtgedahjifbopcaaDoor
open Go.RowKit SumMath WordMath
/-- Both ways of reading come to the same. -/
theorem both_read (l : List Nat) (hl : Wd l) : ∃ (P I B : Int) (b : Bool),
    (∀ A c w, Row w A l → l.length ≤ c → TabAt w → ErrAt w → Calls Tryd.prog 14 #[.slice A l.length c] w fun e w' => e = .returned (.tuple #[gv P I B, .bool b, errV (badAt l)]) ∧ Below w.heap.size w w') ∧
    (∀ A c w, Row w A l → l.length ≤ c → Calls Tryd.prog 19 #[.slice A l.length c] w fun e w' => e = .returned (.tuple #[gv P I B, .bool b, fV (badAt l)]) ∧ Below w.heap.size w w') := by
  cases hb : badAt l with
  | none =>
    refine ⟨fP (l.getD 1 0) , fI (l.getD 1 0), fB (l.getD 1 0), hB (l.getD 1 0), fun A c w hr hc hT hE => decode_good A l c w hb hr hl hc hT, fun A c w hr hc => (rdecode_calls A l c w hr hl hc).mono fun e w' h => ?_⟩
    unfold DecV at h
    rw [hb] at h
    exact h
  | some k =>
    refine ⟨0, 0, 0, false, fun A c w hr hc hT hE => decode_bad A l c w k hb hr hl hc hT hE, fun A c w hr hc => (rdecode_calls A l c w hr hl hc).mono fun e w' h => ?_⟩
    unfold DecV at h
    rw [hb] at h
    exact h
set_option maxRecDepth 100000 in
set_option maxHeartbeats 1000000 in
theorem reads_calls (A : Option Addr) (l : List Nat) (c : Nat) (w : World) (hr : Row w A l) (hl : Wd l) (hlen : l.length ≤ 100) (hcap : l.length ≤ c) (hT : TabAt w) (hE : ErrAt w) :
    Calls Tryd.prog 12 #[.slice A l.length c] w fun e w' => e = .returned (.bool true) ∧ Below w.heap.size w w' := by
  obtain ⟨P, I, B, b, hD, hR⟩ := both_read l hl
  obtain ⟨i0, hi0, hz0, hs0, hb0⟩ := info_parts u64_info
  have HZ := Lib.hid hz0
  have HS := Lib.hid hs0
  have HB := Lib.hid hb0
  have HI := Lib.hid hi0
  have HT := Lib.hid hT
  have HE := Lib.hid hE
  have hTo := told_calls (badAt l)
  obtain ⟨f0, f1, hfv⟩ : ∃ f0 f1 : Int, fV (badAt l) = .agg #[.int .i64 f0, .int .i64 f1] := by
    cases badAt l with
    | none => exact ⟨0, 0, rfl⟩
    | some k => exact ⟨k, 7, rfl⟩
  rw [hfv] at hR hTo
  have HD := Lib.hid hD
  have HR := Lib.hid hR
  have kss := Lib.hid (sameV_self l)
  have HTo := Lib.hid hTo
  clear hz0 hs0 hb0 hi0 hT hE hD hR hTo hfv
  generalize errV (badAt l) = ev at *
  go_enter Tryd.func12, Tryd.ntmps12
  go_wp2_with (at_builtin; refine wpList_cloneC rfl (.const (.slice none 0 0)) (.tmp 10) 24 rfl 42 i0 Tryd.underlying24 HI.out HZ.out HS.out HB.out A l c rfl rfl hr (by omega) ?_; intro A1 c1 w1 hr1 hf1 hb1 _ hc1)
  refine (HD.out A1 c1 w1 hr1 hc1 (HT.out.below hb1) (HE.out.below hb1)).mono ?_
  rintro e w2 ⟨rfl, hb2⟩
  have bw2 := hb1.trans (hb2.mono hb1.size)
  have hr2 := hr1.below hb2
  have hrl2 := hr.below bw2
  clear hb2 hb1 hr1 hf1
  have hon3 : On w2 (w2.alloc (.cells #[.int .i64 P, .int .i64 I, .int .i64 B] 23)) := On.alloc _ _
  have bw3 := bw2.trans (Below.mono hon3 bw2.size)
  have hr3 := hr2.below hon3
  have hrl3 := hrl2.below hon3
  go_wp2_with (fail)
  refine (HR.out A c _ hrl3 hcap).mono ?_
  rintro e w4 ⟨rfl, hb4⟩
  have bw4 := bw3.trans (hb4.mono bw3.size)
  have G4 := alloc_later hb4
  have hr4 := hr3.below hb4
  have hrl4 := hrl3.below hb4
  obtain ⟨g0, g1, g2⟩ := three_cells G4
  have hg := lt_of_cells G4
  clear hb4 hr3 hrl3 hr2 hrl2 hon3 bw3 bw2 G4
  go_wp2_with (fail)
  have hon5 : On w4 ((w4.alloc (.cells #[.int .i64 P, .int .i64 I, .int .i64 B] 23)).alloc (.cells #[.int .i64 f0, .int .i64 f1] 48)) := ((Below.refl _ _).alloc (Nat.le_refl _) _).alloc (by simp) _
  have bw5 := bw4.trans (Below.mono hon5 bw4.size)
  have hr5 := hr4.below hon5
  have hrl5 := hrl4.below hon5
  refine (HTo.out _ (HE.out.below bw5)).mono ?_
  rintro e w6 ⟨rfl, hb6⟩
  have bw6 := bw5.trans (hb6.mono bw5.size)
  have hr6 := hr5.below hb6
  have hrl6 := hrl5.below hb6
  clear hr4 hrl4 hr5 hrl5 hb6 hon5 bw5 bw4
  go_wp2_with (fail)
  refine (same_calls A1 A l l c1 c w6 hr6 hrl6 (by omega) (by omega)).mono ?_
  rintro e w7 ⟨rfl, m, rfl⟩
  rw [kss.out]
  go_wp2_with (fail)
  go_ret
  exact ⟨rfl, below_drewN bw6 m⟩
set_option maxRecDepth 100000 in
theorem supreads_calls (A : Option Addr) (l : List Nat) (c : Nat) (w : World) (hr : Row w A l) (hl : Wd l) (hlen : l.length ≤ 9223372036854775807) (hcap : l.length ≤ c) (hT : TabAt w) (hE : ErrAt w) :
    Calls Tryd.prog 4 #[.slice A l.length c] w fun e w' => e = .returned (.bool true) ∧ Below w.heap.size w w' := by
  have HT := Lib.hid hT
  have HE := Lib.hid hE
  clear hT hE
  by_cases h40 : 40 < l.length
  · go_enter Tryd.func4, Tryd.ntmps4
    go_wp2_with (go_at_call 9; refine (alive_calls _ HT.out HE.out).mono ?_; rintro e w' ⟨rfl, hb⟩)
    go_ret
    exact ⟨rfl, hb⟩
  have h40 : l.length ≤ 40 := by omega
  by_cases h8 : l.length = 8
  · have hls : Hid ((sealed (l.take 7)).length = 8) := Lib.hid (by simp [sealed, h8])
    have hlt : Hid ((l.take 7).length = 7) := Lib.hid (by rw [List.length_take, h8]; rfl)
    have hR := fun W (b : Below w.heap.size w W) => reads_calls A l c W (hr.below b) hl (by omega) hcap (HT.out.below b) (HE.out.below b)
    rw [h8] at hR hcap ⊢
    have h7c : 7 ≤ c := by omega
    have h7i : (7 : Int) ≤ (c : Int) := by omega
    have HR := Lib.hid hR
    clear hR h8 h40
    go_enter Tryd.func4, Tryd.ntmps4
    go_wp2_with (fail)
    refine (HR.out w (Below.refl _ _)).mono ?_
    rintro e w1 ⟨rfl, hb1⟩
    have hr1 := (hr.below hb1).take 7
    have hS := rseal_calls A (l.take 7) c w1 hr1 (hl.take 7) (by rw [hlt.out]; decide)
    rw [hlt.out] at hS
    go_wp2_with (fail)
    refine hS.mono ?_
    clear hS
    rintro e w2 ⟨A2, c2, rfl, hr2, hf2, hb2, hc2⟩
    have bw2 := hb1.trans (hb2.mono hb1.size)
    have hR2 := reads_calls A2 (sealed (l.take 7)) c2 w2 hr2 (Wd.of_mem fun x hx => by
      unfold sealed at hx
      rw [List.mem_append, List.mem_singleton] at hx
      rcases hx with hx | rfl
      · exact (hl.take 7).mem x hx
      · exact sealW_lt (hl.take 7).mem) (by rw [hls.out]; decide) hc2 (HT.out.below bw2) (HE.out.below bw2)
    clear hb2 hr1 hf2 hr2
    go_wp2_with (fail)
    refine hR2.mono ?_
    clear hR2
    rintro e w3 ⟨rfl, hb3⟩
    have bw3 := bw2.trans (hb3.mono bw2.size)
    go_wp2_with (fail)
    refine (alive_calls _ (HT.out.below bw3) (HE.out.below bw3)).mono ?_
    rintro e w4 ⟨rfl, hb4⟩
    go_wp2_with (fail)
    go_ret
    exact ⟨rfl, bw3.trans (hb4.mono bw3.size)⟩
  · have hR := reads_calls A l c w hr hl (by omega) hcap HT.out HE.out
    have hne : ((l.length : Int) != 8) = true := by rw [bne_iff_ne]; omega
    have HR := Lib.hid hR
    clear hR h8
    go_enter Tryd.func4, Tryd.ntmps4
    go_wp2_with (fail)
    refine HR.out.mono ?_
    rintro e w1 ⟨rfl, hb1⟩
    go_wp2_with (fail)
    refine (alive_calls _ (HT.out.below hb1) (HE.out.below hb1)).mono ?_
    rintro e w4 ⟨rfl, hb4⟩
    go_wp2_with (fail)
    go_ret
    exact ⟨rfl, hb1.trans (hb4.mono hb1.size)⟩
end Go.Proofs.YtgedahjifbopcaaDoor
