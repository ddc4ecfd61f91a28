/- MediaPlays: whatever it is called with, it hands back true; nothing that was there has turned. -/
import Derived.Test.YtghppmgieljgiaaTwin
import Derived.Deep.DeepCutAuto
import Derived.Deep.LoopGhost
import Derived.Deep.CutBlock
import Derived.RegionTactic
import Derived.BigRegion
namespace Go.Proofs.Ytghppmgieljgiaa
open Go.RowKit
set_option maxHeartbeats 4000000 in
set_option maxRecDepth 100000 in
theorem plays_calls (x0 : Int) (A1 : Option Addr) (l : List St) (c1 : Nat) (w : World)
    (hx0 : -9223372036854775808 ≤ x0 ∧ x0 < 9223372036854775808) (hr1 : SRow w A1 l) (hl1 : l.length ≤ 9223372036854775807) (ho1 : ∀ k, k < l.length → StOK w (l.getD k s0)) :
    Calls Try.prog 3 #[.int .i64 x0, .slice A1 l.length c1] w fun e w' => e = .returned (.bool true) ∧ Below w.heap.size w w' := by
  have HO1 := Lib.hid ho1
  have HH1 := Lib.hid (heavy_calls w A1 l c1 hr1 ho1 hl1)
  clear ho1
  go_enter Try.func3, Try.ntmps3
  go_wp2_with (fail)
  refine HH1.out.mono ?_
  rintro e w' ⟨b1, rfl, rfl, hb1⟩
  cases b1
  · obtain ⟨hq1, hq2⟩ := hb1 rfl
    have HQ2 := Lib.hid hq2
    clear hb1 hq2
    by_cases hbig : 60 < x0
    · by_cases hb2 : x0 ≤ 4096
      · clear hx0
        go_wp2_with (fail)
        refine (alive_calls w).mono ?_
        rintro e w1 ⟨rfl, hb⟩
        go_wp2_with (fail)
        go_ret
        exact ⟨rfl, hb⟩
      · have hb3 : 4096 < x0 := by omega
        clear hx0
        go_wp2_with (fail)
        refine (new_bad w x0 (.inr hb3)).mono ?_
        rintro e w' ⟨rfl, rfl⟩
        go_wp2_with (fail)
        refine (rnew_bad w x0 (.inr hb3)).mono ?_
        rintro e w' ⟨rfl, rfl⟩
        go_wp2_with (fail)
        refine (alive_calls w).mono ?_
        rintro e w1 ⟨rfl, hb⟩
        go_wp2_with (fail)
        go_ret
        exact ⟨rfl, hb⟩
    · have hbig2 : x0 ≤ 60 := by omega
      by_cases hlo : x0 < 1
      · clear hx0
        go_wp2_with (fail)
        refine (new_bad w x0 (.inl hlo)).mono ?_
        rintro e w' ⟨rfl, rfl⟩
        go_wp2_with (fail)
        refine (rnew_bad w x0 (.inl hlo)).mono ?_
        rintro e w' ⟨rfl, rfl⟩
        go_wp2_with (fail)
        refine (alive_calls w).mono ?_
        rintro e w1 ⟨rfl, hb⟩
        go_wp2_with (fail)
        go_ret
        exact ⟨rfl, hb⟩
      · obtain ⟨n, rfl⟩ := Int.eq_ofNat_of_zero_le (show 0 ≤ x0 by omega)
        have hn1 : 1 ≤ n := by omega
        have hn2 : n ≤ 60 := by omega
        clear hx0 hbig hbig2 hlo
        have hn3 : ¬ 60 < (n : Int) := by omega
        go_wp2_with (fail)
        refine (new_calls w n hn1 (by omega)).mono ?_
        intro e w1 h
        obtain ⟨g, F, rfl, m1⟩ := Mine.of_new h
        clear h
        go_wp2_with (fail)
        refine (rnew_calls w1 n hn1 (by omega)).mono ?_
        rintro e w2 ⟨g', rfl, d2, b2⟩
        have m2 := m1.pass b2
        have M2 : TwinM w w2 g g' ⟨List.replicate (8 * n) 0, List.replicate (8 * n) 0, []⟩ n 0 :=
          ⟨F, _, ⟨m2, d2, fun i hi => Nat.le_trans m1.below.size hi.1, fun i hi hf => by have := m1.dev.lt _ hi; have := hf.1; omega⟩, ⟨Inv.start _, by simp, by simp⟩⟩
        go_wp2_with (fail)
        refine (m2.lines n (by simp) (by omega)).mono ?_
        rintro e w' ⟨rfl, rfl⟩
        clear m1 m2 d2 b2
        go_wp2_with (fail)
        go_loopg [8] l.length (fun gm i wr => ∃ (k : Nat) (m : Mo), gm = l.length - k ∧ i = .int .i64 k ∧ k ≤ l.length ∧ TwinM w wr g g' m n k)
        case atStart => exact ⟨0, _, rfl, rfl, Nat.zero_le _, M2⟩
        case round =>
          obtain ⟨k, m, rfl, rfl, hk, hM⟩ := hrel
          clear M2
          by_cases hlt : k < l.length
          · obtain ⟨b, o, rfl, hbl, hc⟩ := hr1.below hM.below (by omega)
            obtain ⟨y0, y1, y2, y3⟩ := hc k hlt
            have HKL := Lib.hid (HQ2.out k hlt)
            have HOK := Lib.hid (HO1.out k hlt)
            obtain ⟨F3, F3', tw, hok⟩ := hM
            obtain ⟨K, S, L⟩ := m
            have hinv : Inv K S L := hok.inv
            have hKl : K.length = 8 * n := hok.len
            have hLf : L.length ≤ k := hok.few
            have tw1 : Twin w wr g g' F3 F3' ⟨K, S, L⟩ K L := tw
            have HOKM := Lib.hid hok
            have HINV := Lib.hid hinv
            have HKK := Lib.hid hKl
            clear hc tw hok hinv hKl
            generalize hst : l.getD k s0 = st at *
            clear hst
            obtain ⟨act, pos, word, ka, keep, kc⟩ := st
            simp only at y0 y1 y2 y3 HKL
            go_upto_block 2 with fail
            have tw2 := tw1.pass (w' := wr.alloc (.cells #[.int .i64 act, .int .i64 pos, .int .u64 (word : Nat), .slice ka keep.length kc] 35)) ((Below.refl _ _).alloc (Nat.le_refl _) _)
            have al := tw1.aloof (.cells #[.int .i64 act, .int .i64 pos, .int .u64 (word : Nat), .slice ka keep.length kc] 35)
            generalize wr.alloc (.cells #[.int .i64 act, .int .i64 pos, .int .u64 (word : Nat), .slice ka keep.length kc] 35) = w3 at *
            generalize wr.heap.size = gx at *
            clear tw1 y0 y1 y2 y3
            go_cut [10, 11] (fun want got wx => ∃ (m' : Mo) (e : Int), want = .int .i64 e ∧ got = .int .i64 e ∧ TwinM w wx g g' m' n (k + 1))
            case first =>
              obtain ⟨z0, z1, z2, z3⟩ := four_cells al.obj
              have ma : Mine w w3 g F3 K S L := tw2.a
              have hposL := Lib.hid HINV.out.pos
              have hLb : L.length ≤ 1000 := by omega
              have hKb : K.length ≤ 1000 := by have := HKK.out; omega
              by_cases h0 : act = 0
              · subst h0
                by_cases hp : 0 ≤ pos ∧ pos < K.length
                · obtain ⟨a, rfl⟩ := Int.eq_ofNat_of_zero_le hp.1
                  have ha : a < K.length := by omega
                  clear hp
                  go_wp2_with (fail)
                  refine (store_in ma.dev a word ha HINV.out.len (by omega) (by omega)).mono ?_
                  rintro e w4 ⟨rfl, t⟩
                  obtain ⟨F4, tw4, tr⟩ := tw2.turnA t
                  have al4 := tr _ _ al
                  clear t tr z0 z1 z2 z3
                  obtain ⟨z0, z1, z2, z3⟩ := four_cells al4.obj
                  obtain ⟨gk, ck, A, cp, hd, _⟩ := tw4.b
                  go_wp2_with (fail)
                  refine (is_calls hd a (by omega) true (by rw [eq_comm, decide_eq_true_eq]; omega)).mono ?_
                  rintro e w' ⟨rfl, rfl⟩
                  go_wp2_with (fail)
                  refine (rstore_calls tw4.b a word (by omega)).mono ?_
                  rintro e w5 ⟨rfl, t⟩
                  obtain ⟨F5, tw5, tr⟩ := tw4.turnB t
                  clear t tr
                  go_wp2_with (fail)
                  go_meet
                  exact ⟨⟨K, S.set a word, L ++ [(⟨a, word, false⟩ : Pn)]⟩, 0, rfl, rfl, F4, F5, tw5, HOKM.out.store a word ha⟩
                · have HP := Lib.hid hp
                  clear hp
                  go_wp2_with (fail)
                  refine (store_out ma.dev pos word HP.out (by omega)).mono ?_
                  rintro e w' ⟨rfl, rfl⟩
                  obtain ⟨gk, ck, A, cp, hd, _⟩ := tw2.b
                  go_wp2_with (fail)
                  refine (is_calls hd pos (by omega) false (by rw [eq_comm, decide_eq_false_iff_not]; exact HP.out)).mono ?_
                  rintro e w' ⟨rfl, rfl⟩
                  go_wp2_with (fail)
                  go_meet
                  exact ⟨⟨K, S, L⟩, 2, rfl, rfl, F3, F3', tw2, HOKM.out.more (by omega)⟩
              · have hb0 : (act == 0) = false := by rw [beq_eq_false_iff_ne]; exact h0
                by_cases h1 : act = 1
                · subst h1
                  clear hb0 h0
                  by_cases hp : 0 ≤ pos ∧ pos < n
                  · obtain ⟨a, rfl⟩ := Int.eq_ofNat_of_zero_le hp.1
                    have ha : a < n := by omega
                    clear hp
                    go_wp2_with (fail)
                    refine (flush_in ma.dev a n HKK.out (by omega) ha (by omega) HINV.out.pos).mono ?_
                    rintro e w4 ⟨rfl, t⟩
                    obtain ⟨F4, tw4, tr⟩ := tw2.turnA t
                    have al4 := tr _ _ al
                    clear t tr z0 z1 z2 z3
                    obtain ⟨z0, z1, z2, z3⟩ := four_cells al4.obj
                    go_wp2_with (fail)
                    refine (rflush_calls tw4.b HINV.out.pos (by omega) (by omega) a (by omega)).mono ?_
                    rintro e w5 ⟨rfl, t⟩
                    obtain ⟨F5, tw5, tr⟩ := tw4.turnB t
                    clear t tr
                    go_wp2_with (fail)
                    go_meet
                    exact ⟨⟨K, S, flushL a L⟩, 0, rfl, rfl, F4, F5, tw5, (HOKM.out.flush a).more (by omega)⟩
                  · have HP := Lib.hid hp
                    obtain ⟨gk1, ck1, gs1, cs1, A1', cp1, hc1, _⟩ := ma.dev
                    by_cases hneg : pos < 0
                    · clear hp
                      go_wp2_with (fail)
                      refine (flush_out hc1 pos n HKK.out (by omega) HP.out).mono ?_
                      rintro e w' ⟨rfl, rfl⟩
                      go_wp2_with (fail)
                      go_meet
                      exact ⟨⟨K, S, L⟩, 2, rfl, rfl, F3, F3', tw2, HOKM.out.more (by omega)⟩
                    · have hge : 0 ≤ pos := by omega
                      have hge2 : (n : Int) ≤ pos := by omega
                      clear hp hneg
                      go_wp2_with (fail)
                      refine (flush_out hc1 pos n HKK.out (by omega) HP.out).mono ?_
                      rintro e w' ⟨rfl, rfl⟩
                      go_wp2_with (fail)
                      go_meet
                      exact ⟨⟨K, S, L⟩, 2, rfl, rfl, F3, F3', tw2, HOKM.out.more (by omega)⟩
                · have hb1 : (act == 1) = false := by rw [beq_eq_false_iff_ne]; exact h1
                  by_cases h2 : act = 2
                  · subst h2
                    clear hb0 h0 hb1 h1
                    go_wp2_with (fail)
                    refine (fence_calls ma.dev HINV.out.pos (by omega) (by omega)).mono ?_
                    rintro e w4 ⟨rfl, t⟩
                    obtain ⟨F4, tw4, tr⟩ := tw2.turnA t
                    clear t tr
                    go_wp2_with (fail)
                    refine (rfence_calls tw4.b HINV.out.pos (by omega) (by omega)).mono ?_
                    rintro e w5 ⟨rfl, t⟩
                    obtain ⟨F5, tw5, tr⟩ := tw4.turnB t
                    clear t tr
                    go_wp2_with (fail)
                    go_meet
                    exact ⟨⟨lay K (keeps stF L), S, leaves stF L⟩, 0, rfl, rfl, F4, F5, tw5, HOKM.out.fence.more (by omega)⟩
                  · have hb2 : (act == 2) = false := by rw [beq_eq_false_iff_ne]; exact h2
                    by_cases h3 : act = 3
                    · subst h3
                      clear hb0 h0 hb1 h1 hb2 h2
                      obtain ⟨i0, hi0, hz0, hs0, hb0⟩ := info_parts bool_info
                      have HI := Lib.hid hi0
                      have HZ := Lib.hid hz0
                      have HS := Lib.hid hs0
                      have HBY := Lib.hid hb0
                      clear hi0 hz0 hs0 hb0
                      have hcel := HOK.out.below tw2.below
                      have hlo : ∀ ad, ka = some ad → 0 < keep.length → ad.block < w.heap.size := fun ad e h0 => HOK.out.cel.lt (by rw [bv_length]; exact h0) ad e
                      have HLO := Lib.hid hlo
                      have HCEL := Lib.hid hcel.cel
                      have hkb : keep.length ≤ 1000 := HKL.out
                      clear hlo hcel
                      go_wp2_with (at_builtin; refine wpList_clone_n rfl (.const (.slice none 0 0)) (.tmp 133) 33 rfl 4 i0 _ 1 1 Try.underlying33 HI.out HZ.out HS.out HBY.out rfl (by decide) ka keep.length kc (bv keep) HCEL.out (by rw [bv_length, Nat.mul_one]) (bv_one keep) (by omega) (by decide) rfl rfl ?_; intro A10 c10 w10 hown hb10 hnew)
                      have tw10 := tw2.pass hb10
                      have al10 := al.below hb10
                      have ma10 : Mine w w10 g F3 K S L := tw10.a
                      refine (crash_calls ma10.dev HINV.out.pos (by omega) (by omega) HINV.out.len A10 keep c10 hown.cel (by omega) (fun ad e _ hf => by
                        have q1 := hnew ad e
                        have q2 := ma.dev.lt _ hf
                        omega)).mono ?_
                      rintro e w4 ⟨rfl, t⟩
                      obtain ⟨F4, tw4, tr⟩ := tw10.turnA t
                      have al4 := tr _ _ al10
                      clear t tr z0 z1 z2 z3
                      obtain ⟨z0, z1, z2, z3⟩ := four_cells al4.obj
                      have HC4 := Lib.hid (HOK.out.cel.below tw4.below)
                      go_wp2_with (fail)
                      refine (rcrash_calls tw4.b HINV.out.pos (by omega) (by omega) ka keep kc HC4.out (by omega) (fun ad e h0 hf => by
                        have q1 := HLO.out ad e h0
                        have q2 := tw4.lo _ hf
                        omega)).mono ?_
                      rintro e w5 ⟨rfl, t⟩
                      obtain ⟨F5, tw5, tr⟩ := tw4.turnB t
                      clear t tr
                      go_wp2_with (fail)
                      go_meet
                      exact ⟨⟨lay K (keeps (stC keep) L), lay K (keeps (stC keep) L), []⟩, 0, rfl, rfl, F4, F5, tw5, (HOKM.out.crash keep).more (by omega)⟩
                    · have hb3 : (act == 3) = false := by rw [beq_eq_false_iff_ne]; exact h3
                      clear h0 h1 h2 h3
                      by_cases hp : 0 ≤ pos ∧ pos < K.length
                      · obtain ⟨a, rfl⟩ := Int.eq_ofNat_of_zero_le hp.1
                        have ha : a < K.length := by omega
                        clear hp
                        obtain ⟨gk, ck, A, cp, hd, _⟩ := tw2.b
                        have hld := rload_calls hd a ha (by omega) (by omega)
                        rw [← HINV.out.seen] at hld
                        go_wp2_with (fail)
                        refine (ma.load a ha HINV.out.len (by omega)).mono ?_
                        rintro e w' ⟨rfl, rfl⟩
                        go_wp2_with (fail)
                        refine (is_calls hd a (by omega) true (by rw [eq_comm, decide_eq_true_eq]; omega)).mono ?_
                        rintro e w' ⟨rfl, rfl⟩
                        go_wp2_with (fail)
                        refine hld.mono ?_
                        rintro e w' ⟨rfl, rfl⟩
                        go_wp2_with (fail)
                        go_meet
                        exact ⟨⟨K, S, L⟩, 0, rfl, rfl, F3, F3', tw2, HOKM.out.more (by omega)⟩
                      · have HP := Lib.hid hp
                        clear hp
                        obtain ⟨gk, ck, A, cp, hd, _⟩ := tw2.b
                        obtain ⟨gk1, ck1, gs1, cs1, A1', cp1, hc1, _⟩ := ma.dev
                        go_wp2_with (fail)
                        refine (load_out hc1 pos HP.out (by omega)).mono ?_
                        rintro e w' ⟨rfl, rfl⟩
                        go_wp2_with (fail)
                        refine (is_calls hd pos (by omega) false (by rw [eq_comm, decide_eq_false_iff_not]; exact HP.out)).mono ?_
                        rintro e w' ⟨rfl, rfl⟩
                        go_wp2_with (fail)
                        go_meet
                        exact ⟨⟨K, S, L⟩, 2, rfl, rfl, F3, F3', tw2, HOKM.out.more (by omega)⟩
            case rest =>
              obtain ⟨m', e, rfl, rfl, F6, F6', tw, hok⟩ := hcut
              clear tw2 al HOK HKL
              obtain ⟨K, S, L⟩ := m'
              have hinv : Inv K S L := hok.inv
              have hKl : K.length = 8 * n := hok.len
              have hLf : L.length ≤ k + 1 := hok.few
              have tw' : Twin w wc g g' F6 F6' ⟨K, S, L⟩ K L := tw
              have ma : Mine w wc g F6 K S L := tw'.a
              have HINV := Lib.hid hinv
              have HKK := Lib.hid hKl
              have HOKM := Lib.hid hok
              have hK0 : 0 < K.length := by omega
              have hKb : K.length ≤ 1000 := by omega
              have hLb : L.length ≤ 1000 := by omega
              have hSb : S.length ≤ 1000 := by rw [hinv.len]; omega
              clear tw hinv hKl hok
              have HRD := Lib.hid tw'.b
              obtain ⟨gk, ck, A, cp, hd, _⟩ := tw'.b
              have HDC := Lib.hid hd
              clear hd
              go_wp2_with (fail)
              refine wp_region_rel (T := On) (R := specs [.val (.int .i64 e), .val (.int .i64 e), .val (.bool false), .val (.bool false),
                .val (.pointer (some ⟨g, 0, none⟩)), .pends L, .val (.pointer (some ⟨g', 0, none⟩)), .val (.pointer (some ⟨g', 0, none⟩)), .val (.pointer (some ⟨g', 1, none⟩)), .pends L, .val (.bool true), .val (.bool false), .val (.bool false), .val (.bool false),
                .val (.pointer (some ⟨g, 0, none⟩)), .row S, .val (.pointer (some ⟨g', 0, none⟩)), .row S, .val (.bool true), .val (.bool false), .val (.bool false), .val (.bool false),
                .val (.pointer (some ⟨g, 0, none⟩)), .row K, .val (.pointer (some ⟨g', 0, none⟩)), .val (.pointer (some ⟨g', 0, none⟩)), .val (.pointer (some ⟨g', 0, none⟩)), .row K, .val (.bool true), .val (.bool false), .val (.bool false)])
                (by kernel_rfl) (by kernel_rfl) (fun w => Below.refl _ _) On.trans (fun i v w w' h k => Spec.stable h k) (below_drewN (Below.refl _ _) 1) ?steps ?rest2
              case steps =>
                refine ⟨?s0, ?s1, ?s2, ?s3, ?s4, ?s5, ?s6, ?s7, ?s8, ?s9, ?s10, ?s11, ?s12, ?s13, ?s14, ?s15, ?s16, ?s17, ?s18, ?s19, ?s20, ?s21, ?s22, ?s23, ?s24, ?s25, ?s26, ?s27, ?s28, ?s29, ?s30, trivial⟩
                case s0 => exact fun a u hT hA hd => .inl ⟨rfl, StepOK.move (.tmp 11) rfl (hA.eval 11 rfl) (Below.refl _ _)⟩
                case s1 => exact fun a u hT hA hd => .inl ⟨rfl, StepOK.move (.tmp 10) rfl (hA.eval 10 rfl) (Below.refl _ _)⟩
                case s2 => exact fun a u hT hA hd => .inl ⟨rfl, step_neq (.tmp 140) (.tmp 141) _ _ rfl e (dep hd 0 140 rfl rfl) (dep hd 1 141 rfl rfl)⟩
                case s3 => exact fun a u hT hA hd => .inl ⟨rfl, StepOK.move (.tmp 142) rfl (dep hd 2 142 rfl rfl) (Below.refl _ _)⟩
                case s4 => exact fun a u hT hA hd => .inl ⟨(wanted_of (g := 3) (want := false) (b := false) (d := 143) rfl rfl (dep hd 3 143 rfl rfl)).trans rfl, StepOK.move (.tmp 5) rfl (hA.eval 5 rfl) (Below.refl _ _)⟩
                case s5 => exact fun a u hT hA hd => .inl ⟨(wanted_of (g := 3) (want := false) (b := false) (d := 143) rfl rfl (dep hd 3 143 rfl rfl)).trans rfl, step_pending (ma.dev.below hT) (by omega) (.tmp 144) _ rfl (dep hd 4 144 rfl rfl)⟩
                case s6 => exact fun a u hT hA hd => .inl ⟨(wanted_of (g := 3) (want := false) (b := false) (d := 143) rfl rfl (dep hd 3 143 rfl rfl)).trans rfl, StepOK.move (.tmp 7) rfl (hA.eval 7 rfl) (Below.refl _ _)⟩
                case s7 => exact fun a u hT hA hd => .inl ⟨(wanted_of (g := 3) (want := false) (b := false) (d := 143) rfl rfl (dep hd 3 143 rfl rfl)).trans rfl, step_nilCheck (.tmp 146) rfl _ (dep hd 6 146 rfl rfl)⟩
                case s8 => exact fun a u hT hA hd => .inl ⟨(wanted_of (g := 3) (want := false) (b := false) (d := 143) rfl rfl (dep hd 3 143 rfl rfl)).trans rfl, step_field1 (.tmp 147) rfl (dep hd 7 147 rfl rfl)⟩
                case s9 => exact fun a u hT hA hd => .inl ⟨(wanted_of (g := 3) (want := false) (b := false) (d := 143) rfl rfl (dep hd 3 143 rfl rfl)).trans rfl, step_loadP (RDevC.below HDC.out hT) (.tmp 148) rfl (dep hd 8 148 rfl rfl)⟩
                case s10 => exact fun a u hT hA hd => .inl ⟨(wanted_of (g := 3) (want := false) (b := false) (d := 143) rfl rfl (dep hd 3 143 rfl rfl)).trans rfl, step_pends (by omega) (.tmp 145) (.tmp 149) _ rfl (dep hd 5 145 rfl rfl) (dep hd 9 149 rfl rfl)⟩
                case s11 => exact fun a u hT hA hd => .inl ⟨(wanted_of (g := 3) (want := false) (b := false) (d := 143) rfl rfl (dep hd 3 143 rfl rfl)).trans rfl, step_not (.tmp 150) _ rfl (dep hd 10 150 rfl rfl)⟩
                case s12 => exact fun a u hT hA hd => .inl ⟨rfl, step_pickF (.tmp 143) _ (.tmp 151) rfl (dep hd 3 143 rfl rfl) (dep hd 11 151 rfl rfl)⟩
                case s13 => exact fun a u hT hA hd => .inl ⟨rfl, StepOK.move (.tmp 152) rfl (dep hd 12 152 rfl rfl) (Below.refl _ _)⟩
                case s14 => exact fun a u hT hA hd => .inl ⟨(wanted_of (g := 13) (want := false) (b := false) (d := 153) rfl rfl (dep hd 13 153 rfl rfl)).trans rfl, StepOK.move (.tmp 5) rfl (hA.eval 5 rfl) (Below.refl _ _)⟩
                case s15 => exact fun a u hT hA hd => .inl ⟨(wanted_of (g := 13) (want := false) (b := false) (d := 153) rfl rfl (dep hd 13 153 rfl rfl)).trans rfl, step_wordsA (ma.dev.below hT) (by omega) (.tmp 154) _ rfl (dep hd 14 154 rfl rfl)⟩
                case s16 => exact fun a u hT hA hd => .inl ⟨(wanted_of (g := 13) (want := false) (b := false) (d := 153) rfl rfl (dep hd 13 153 rfl rfl)).trans rfl, StepOK.move (.tmp 7) rfl (hA.eval 7 rfl) (Below.refl _ _)⟩
                case s17 => exact fun a u hT hA hd => .inl ⟨(wanted_of (g := 13) (want := false) (b := false) (d := 153) rfl rfl (dep hd 13 153 rfl rfl)).trans rfl, (HINV.out.seen ▸ step_wordsB (RDev.below HRD.out hT) hK0 HINV.out.pos (by omega) (by omega) (.tmp 156) _ rfl (dep hd 16 156 rfl rfl))⟩
                case s18 => exact fun a u hT hA hd => .inl ⟨(wanted_of (g := 13) (want := false) (b := false) (d := 153) rfl rfl (dep hd 13 153 rfl rfl)).trans rfl, step_same (by omega) (.tmp 155) (.tmp 157) _ rfl (dep hd 15 155 rfl rfl) (dep hd 17 157 rfl rfl)⟩
                case s19 => exact fun a u hT hA hd => .inl ⟨(wanted_of (g := 13) (want := false) (b := false) (d := 153) rfl rfl (dep hd 13 153 rfl rfl)).trans rfl, step_not (.tmp 158) _ rfl (dep hd 18 158 rfl rfl)⟩
                case s20 => exact fun a u hT hA hd => .inl ⟨rfl, step_pickF (.tmp 153) _ (.tmp 159) rfl (dep hd 13 153 rfl rfl) (dep hd 19 159 rfl rfl)⟩
                case s21 => exact fun a u hT hA hd => .inl ⟨rfl, StepOK.move (.tmp 160) rfl (dep hd 20 160 rfl rfl) (Below.refl _ _)⟩
                case s22 => exact fun a u hT hA hd => .inl ⟨(wanted_of (g := 21) (want := false) (b := false) (d := 161) rfl rfl (dep hd 21 161 rfl rfl)).trans rfl, StepOK.move (.tmp 5) rfl (hA.eval 5 rfl) (Below.refl _ _)⟩
                case s23 => exact fun a u hT hA hd => .inl ⟨(wanted_of (g := 21) (want := false) (b := false) (d := 161) rfl rfl (dep hd 21 161 rfl rfl)).trans rfl, step_keptA (ma.dev.below hT) (by omega) (.tmp 162) _ rfl (dep hd 22 162 rfl rfl)⟩
                case s24 => exact fun a u hT hA hd => .inl ⟨(wanted_of (g := 21) (want := false) (b := false) (d := 161) rfl rfl (dep hd 21 161 rfl rfl)).trans rfl, StepOK.move (.tmp 7) rfl (hA.eval 7 rfl) (Below.refl _ _)⟩
                case s25 => exact fun a u hT hA hd => .inl ⟨(wanted_of (g := 21) (want := false) (b := false) (d := 161) rfl rfl (dep hd 21 161 rfl rfl)).trans rfl, step_nilCheck (.tmp 164) rfl _ (dep hd 24 164 rfl rfl)⟩
                case s26 => exact fun a u hT hA hd => .inl ⟨(wanted_of (g := 21) (want := false) (b := false) (d := 161) rfl rfl (dep hd 21 161 rfl rfl)).trans rfl, step_field0 (.tmp 165) rfl (dep hd 25 165 rfl rfl)⟩
                case s27 => exact fun a u hT hA hd => .inl ⟨(wanted_of (g := 21) (want := false) (b := false) (d := 161) rfl rfl (dep hd 21 161 rfl rfl)).trans rfl, step_loadK (RDevC.below HDC.out hT) (.tmp 166) rfl (dep hd 26 166 rfl rfl)⟩
                case s28 => exact fun a u hT hA hd => .inl ⟨(wanted_of (g := 21) (want := false) (b := false) (d := 161) rfl rfl (dep hd 21 161 rfl rfl)).trans rfl, step_same (by omega) (.tmp 163) (.tmp 167) _ rfl (dep hd 23 163 rfl rfl) (dep hd 27 167 rfl rfl)⟩
                case s29 => exact fun a u hT hA hd => .inl ⟨(wanted_of (g := 21) (want := false) (b := false) (d := 161) rfl rfl (dep hd 21 161 rfl rfl)).trans rfl, step_not (.tmp 168) _ rfl (dep hd 28 168 rfl rfl)⟩
                case s30 => exact fun a u hT hA hd => .inl ⟨rfl, step_pickF (.tmp 161) _ (.tmp 169) rfl (dep hd 21 161 rfl rfl) (dep hd 29 169 rfl rfl)⟩
              case rest2 =>
                intro vs u hT hR
                have h30 : vs 30 = .bool false := hR 30 (by decide)
                have hM6 : TwinM w u g g' ⟨K, S, L⟩ n (k + 1) := ⟨F6, F6', tw'.pass hT, HOKM.out⟩
                simp only [putsFrom, Act.put, List.setIfInBounds_toArray, List.set_cons_succ, List.set_cons_zero, h30]
                clear hR
                go_wp2_with (fail)
                go_roundg (l.length - (k + 1))
                case measure => omega
                case rel => exact ⟨k + 1, _, by omega, by go_num, by omega, hM6⟩
          · obtain rfl : k = l.length := by omega
            go_wp2_with (fail)
            refine (alive_calls _).mono ?_
            rintro e w3 ⟨rfl, b3⟩
            go_wp2_with (fail)
            go_ret
            exact ⟨rfl, hM.below.trans (b3.mono hM.below.size)⟩
  · clear hb1
    go_wp2_with (fail)
    refine (alive_calls w).mono ?_
    rintro e w1 ⟨rfl, hb⟩
    go_wp2_with (fail)
    go_ret
    exact ⟨rfl, hb⟩
end Go.Proofs.Ytghppmgieljgiaa
