/- MediaFenced: whatever it is called with, it hands back true; nothing that was there has turned. -/
import Derived.Test.YtghppmgieljgiaaFenMath
import Derived.Test.YtghppmgieljgiaaLawOf
namespace Go.Proofs.Ytghppmgieljgiaa
open Go.RowKit
theorem StOK.below {w w' : World} {s : St} (h : StOK w s) (hb : Below w.heap.size w w') : StOK w' s := ⟨h.cel.below hb, h.len⟩
theorem Cel.lt {w : World} {A : Option Addr} {xs : List Value} (h : Cel w A xs) (h0 : 0 < xs.length) : ∀ ad, A = some ad → ad.block < w.heap.size := fun ad e => by
  obtain ⟨ad', e', hl, _⟩ := h h0
  rw [e] at e'
  injection e' with e'
  rw [e']; exact hl
/-- A device of the call's own that reads as m. -/
def MineM (w0 w : World) (g : Nat) (m : Mo) (n N : Nat) : Prop := ∃ F, Mine w0 w g F m.K m.S m.L ∧ m.ok n N
theorem MineM.does {w0 w : World} {g n N : Nat} {m : Mo} (h : MineM w0 w g m n N) (hn : n ≤ 4096) (hN : N ≤ 1099511627776) (s : St) (hs : StOK w0 s) (hk : s.keep.length ≤ 1000) :
    Calls Try.prog 32 #[.pointer (some ⟨g, 0, none⟩), sval s] w fun e w' => e = .returned (.tuple #[]) ∧ MineM w0 w' g (m.step s) n (N + 1) := by
  obtain ⟨F, hm, hok⟩ := h
  refine (does_calls hm.dev hok hn hN s (hs.below hm.below) hk fun ad e h0 hf => ?_).mono ?_
  · have q1 := hs.cel.lt (by rw [bv_length]; exact h0) ad e
    have q2 := hm.lo _ hf
    omega
  · rintro e w' ⟨rfl, t⟩
    obtain ⟨F', hm'⟩ := hm.turn t
    exact ⟨rfl, F', hm', hok.step s⟩
theorem MineM.below {w0 w : World} {g n N : Nat} {m : Mo} (h : MineM w0 w g m n N) : Below w0.heap.size w0 w := by
  obtain ⟨F, hm, _⟩ := h; exact hm.below
/-- A row beside a device. -/
structure Bes (w : World) (F : Nat → Prop) (A : Option Addr) (xs : List Value) : Prop where
  cel : Cel w A xs
  out : ∀ ad, A = some ad → 0 < xs.length → ¬ F ad.block
theorem Bes.turn {w0 w w' : World} {g : Nat} {F : Nat → Prop} {K S K' S' : List Nat} {L L' : List Pn} {A : Option Addr} {xs : List Value} (h : Bes w F A xs) (m : Mine w0 w g F K S L) (t : Turn w g F K' S' L' w') :
    ∃ F', Mine w0 w' g F' K' S' L' ∧ Bes w' F' A xs := by
  obtain ⟨F', h1, h2, h3⟩ := t
  have hz := m.below.size
  refine ⟨F', ⟨h1, fun i hi => ?_, m.below.trans (h2.below hz m.lo)⟩, h.cel.only h2 h.out, fun ad e h0 hf => ?_⟩
  · rcases h3 i hi with h4 | h4
    · exact m.lo i h4
    · omega
  · rcases h3 _ hf with h4 | h4
    · exact h.out ad e h0 h4
    · have := h.cel.lt h0 ad e
      omega
theorem Bes.below {w w' : World} {F : Nat → Prop} {A : Option Addr} {xs : List Value} (h : Bes w F A xs) (hb : Below w.heap.size w w') : Bes w' F A xs := ⟨h.cel.below hb, h.out⟩
theorem Bes.of_own {w w' : World} {F : Nat → Prop} {e : TypeId} {size n c : Nat} {A : Option Addr} {xs : List Value} (h : OwnR w' e size A n c xs) (hn : ∀ ad, A = some ad → w.heap.size ≤ ad.block) (hF : ∀ i, F i → i < w.heap.size) : Bes w' F A xs :=
  ⟨h.cel, fun ad e _ hf => by have := hn ad e; have := hF _ hf; omega⟩
set_option maxHeartbeats 2000000 in
set_option maxRecDepth 100000 in
theorem fenced_calls (x0 : Nat) (A1 : Option Addr) (l : List St) (c1 : Nat) (x2 : Nat) (A3 : Option Addr) (s : List St) (c3 : Nat) (A4 : Option Addr) (keep : List Bool) (c4 : Nat) (w : World)
    (hx0 : x0 < 256) (hx2 : x2 < 256) (hr1 : SRow w A1 l) (hl1 : l.length ≤ 9223372036854775807) (ho1 : ∀ k, k < l.length → StOK w (l.getD k s0)) (hr3 : SRow w A3 s) (hl3 : s.length ≤ 9223372036854775807) (ho3 : ∀ k, k < s.length → StOK w (s.getD k s0))
    (hr4 : Cel w A4 (bv keep)) (hl4 : keep.length ≤ 9223372036854775807) :
    Calls Try.prog 6 #[.int .u8 (x0 : Nat), .slice A1 l.length c1, .int .u8 (x2 : Nat), .slice A3 s.length c3, .slice A4 keep.length c4] w fun e w' => e = .returned (.bool true) ∧ Below w.heap.size w w' := by
  have HO1 := Lib.hid ho1
  have HO3 := Lib.hid ho3
  have HH1 := Lib.hid (heavy_calls w A1 l c1 hr1 ho1 hl1)
  have HH3 := Lib.hid (heavy_calls w A3 s c3 hr3 ho3 hl3)
  clear ho1 ho3
  obtain ⟨n, hn, hn1, hn2⟩ : ∃ n : Nat, (x0 : Int) % 30 + 1 = n ∧ 1 ≤ n ∧ n ≤ 30 := ⟨x0 % 30 + 1, by omega, by omega, by omega⟩
  go_enter Try.func6, Try.ntmps6
  go_wp2_with (fail)
  refine HH1.out.mono ?_
  rintro e w' ⟨b1, rfl, rfl, hb1⟩
  cases b1
  · obtain ⟨hq1, hq2⟩ := hb1 rfl
    have HQ2 := Lib.hid hq2
    clear hb1 hq2
    go_wp2_with (fail)
    refine HH3.out.mono ?_
    rintro e w' ⟨b3, rfl, rfl, hb3⟩
    cases b3
    · obtain ⟨hq3, hq4⟩ := hb3 rfl
      have HQ4 := Lib.hid hq4
      clear hb3 hq4
      by_cases hk4 : 400 < keep.length
      · go_wp2_with (fail)
        refine (alive_calls w).mono ?_
        rintro e w1 ⟨rfl, hb⟩
        go_wp2_with (fail)
        go_ret
        exact ⟨rfl, hb⟩
      · have hk5 : keep.length ≤ 400 := by omega
        go_wp2_with (fail)
        refine (new_calls w n hn1 (by omega)).mono ?_
        intro e w1 h
        obtain ⟨g, F, rfl, m1⟩ := Mine.of_new h
        clear h
        have M1 : MineM w w1 g ⟨List.replicate (8 * n) 0, List.replicate (8 * n) 0, []⟩ n 0 := ⟨F, m1, Inv.start _, by simp, by simp⟩
        clear m1
        go_wp2_with (fail)
        go_loopw [14] (fun i wr => ∃ (k : Nat) (m : Mo), i = .int .i64 k ∧ k ≤ l.length ∧ MineM w wr g m n k) (fun i _ => l.length - (intOf i).toNat)
        case atStart => exact ⟨0, _, rfl, Nat.zero_le _, M1⟩
        case round =>
          obtain ⟨k, m, rfl, hk, hM⟩ := hrel
          by_cases hlt : k < l.length
          · obtain ⟨b, o, rfl, hbl, hc⟩ := hr1.below hM.below (by omega)
            obtain ⟨y0, y1, y2, y3⟩ := hc k hlt
            have hD := Lib.hid (hM.does (by omega) (by omega) (l.getD k s0) (HO1.out k hlt) (HQ2.out k hlt))
            clear hc
            generalize l.getD k s0 = st at *
            go_wp2_with (fail)
            refine hD.out.mono ?_
            rintro e w2 ⟨rfl, hM2⟩
            go_wp2_with (fail)
            go_roundw
            case rel => exact ⟨k + 1, _, by go_num, by omega, hM2⟩
            case measure => simp [intOf]; omega
          · obtain rfl : k = l.length := by omega
            obtain ⟨K, S, L⟩ := m
            obtain ⟨F2, hm, hok⟩ := hM
            have hinv : Inv K S L := hok.inv
            have hKl : K.length = 8 * n := hok.len
            have hLf : L.length ≤ l.length := hok.few
            have hm' : Mine w wr g F2 K S L := hm
            clear hm hok
            have hSl := hinv.len
            have hnz : ((8 * (n : Int)) == 0) = false := by rw [beq_eq_false_iff_ne]; omega
            obtain ⟨a, ha, hal⟩ : ∃ a : Nat, (x2 : Int) % (8 * (n : Int)) = a ∧ a < 8 * n := ⟨x2 % (8 * n), by rw [show (8 * (n : Int)) = ((8 * n : Nat) : Int) by omega]; rfl, Nat.mod_lt _ (by omega)⟩
            have HKL := Lib.hid hKl
            have HSL := Lib.hid hSl
            have HINV := Lib.hid hinv
            clear hKl hSl hinv
            go_wp2_with (fail)
            refine (hm'.load a (by have := HKL.out; omega) HSL.out (by have := HKL.out; omega)).mono ?_
            rintro e w' ⟨rfl, rfl⟩
            generalize hv : S.getD a 0 = v
            have HV := Lib.hid hv
            clear hv
            go_wp2_with (fail)
            refine (words_calls hm'.dev (by have := HKL.out; have := HSL.out; omega)).mono ?_
            rintro e w3 ⟨A3', c3', rfl, o3, b3, l3⟩
            have m3 := hm'.pass b3
            have e3 := Bes.of_own o3 l3 hm'.dev.lt
            clear o3 l3 hm'
            go_wp2_with (fail)
            go_loopw [19] (fun i wx => ∃ (k : Nat) (L' : List Pn) (F' : Nat → Prop), i = .int .i64 k ∧ k ≤ n ∧ Mine w wx g F' K S L' ∧ Bes wx F' A3' (wv S) ∧ Flushed K S L' l.length k) (fun i _ => n - (intOf i).toNat)
            case atStart => exact ⟨0, L, F2, rfl, Nat.zero_le _, m3, e3, Flushed.start HINV.out hLf⟩
            case round =>
              obtain ⟨k, L', F', rfl, hk, hm, he, hfl⟩ := hrel
              by_cases hlt : k < n
              · have hD := Lib.hid (flush_in hm.dev k n HKL.out (by omega) hlt (by have := hfl.few; omega) hfl.inv.pos)
                go_wp2_with (fail)
                refine hD.out.mono ?_
                rintro e w4 ⟨rfl, t⟩
                obtain ⟨F4, m4, e4⟩ := he.turn hm t
                clear t
                go_wp2_with (fail)
                go_roundw
                case rel => exact ⟨k + 1, _, F4, by go_num, by omega, m4, e4, hfl.step⟩
                case measure => simp [intOf]; omega
              · obtain rfl : k = n := by omega
                obtain ⟨hall1, hall2⟩ := hfl.all HKL.out
                have HF := Lib.hid (fence_calls hm.dev hfl.inv.pos (by have := hfl.few; omega) (by have := HKL.out; omega))
                rw [hall1, hall2] at HF
                have HKN := HKL
                clear hfl hall1 hall2
                go_wp2_with (fail)
                refine HF.out.mono ?_
                rintro e w5 ⟨rfl, t⟩
                obtain ⟨F5, m5, e5⟩ := he.turn hm t
                clear t HF hm he m3 e3
                go_wp2_with (fail)
                refine (pending_calls m5.dev (by decide)).mono ?_
                rintro e w6 ⟨A6, c6, rfl, _, b6, _⟩
                have m6 := m5.pass b6
                have e6 := e5.below b6
                go_wp2_with (fail)
                refine (kept_calls m6.dev (by have := HKL.out; have := HSL.out; omega)).mono ?_
                rintro e w7 ⟨A7, c7, rfl, o7, b7, _⟩
                have m7 := m6.pass b7
                have e7 := e6.below b7
                go_wp2_with (fail)
                refine (same_self A7 A3' S c7 c3' w7 o7.row (Row.of_cel e7.cel) (by have := HKL.out; have := HSL.out; omega)).mono ?_
                rintro e w8 ⟨rfl, b8, _⟩
                have m8 := m7.pass b8
                clear m5 e5 m6 e6 m7 e7 o7 b6 b7 b8
                have M8 : MineM w w8 g ⟨S, S, []⟩ k 0 ∧ Safe ⟨S, S, []⟩ a v := ⟨⟨F5, m8, Inv.start _, by show S.length = _; rw [HSL.out]; exact HKL.out, Nat.le_refl _⟩, by show a < S.length; rw [HSL.out, HKL.out]; exact hal, HV.out, HV.out, fun p hp => by cases hp⟩
                clear m8
                go_wp2_with (fail)
                go_loopw [20] (fun i wx => ∃ (q : Nat) (m : Mo), i = .int .i64 q ∧ q ≤ s.length ∧ MineM w wx g m k q ∧ Safe m a v) (fun i _ => s.length - (intOf i).toNat)
                case atStart => exact ⟨0, _, rfl, Nat.zero_le _, M8⟩
                case round =>
                  obtain ⟨q, m, rfl, hq, hM, hSafe⟩ := hrel
                  clear M8
                  by_cases hlt : q < s.length
                  · obtain ⟨b, o, rfl, hbl, hc⟩ := hr3.below hM.below (by omega)
                    obtain ⟨y0, y1, y2, y3⟩ := hc q hlt
                    have hD := Lib.hid (hM.does (by omega) (by omega) (s.getD q s0) (HO3.out q hlt) (HQ4.out q hlt))
                    clear hc
                    generalize s.getD q s0 = st at *
                    by_cases hact : st.act = 0
                    · by_cases hposn : st.pos = a
                      · have hM' : MineM w wr g m k (q + 1) := by
                          obtain ⟨F', h1, h2⟩ := hM
                          exact ⟨F', h1, h2.more (by omega)⟩
                        rw [hact] at y0
                        rw [hposn] at y1
                        clear hD hact hposn
                        go_wp2_with (fail)
                        go_roundw
                        case rel => exact ⟨q + 1, m, by go_num, by omega, hM', hSafe⟩
                        case measure => simp [intOf]; omega
                      · have hS2 := hSafe.step st fun h => hposn h.2
                        have hpb : (st.pos == (a : Int)) = false := by rw [beq_eq_false_iff_ne]; exact hposn
                        have hab : (st.act == 0) = true := by rw [hact]; rfl
                        clear hposn hact hSafe
                        go_wp2_with (fail)
                        refine hD.out.mono ?_
                        rintro e w9 ⟨rfl, hM9⟩
                        go_wp2_with (fail)
                        go_roundw
                        case rel => exact ⟨q + 1, _, by go_num, by omega, hM9, hS2⟩
                        case measure => simp [intOf]; omega
                    · have hS2 := hSafe.step st fun h => hact h.1
                      have hab : (st.act == 0) = false := by rw [beq_eq_false_iff_ne]; exact hact
                      clear hact hSafe
                      go_wp2_with (fail)
                      refine hD.out.mono ?_
                      rintro e w9 ⟨rfl, hM9⟩
                      go_wp2_with (fail)
                      go_roundw
                      case rel => exact ⟨q + 1, _, by go_num, by omega, hM9, hS2⟩
                      case measure => simp [intOf]; omega
                  · obtain rfl : q = s.length := by omega
                    obtain ⟨K9, S9, L9⟩ := m
                    obtain ⟨F9, m9, hok⟩ := hM
                    have m9' : Mine w wr g F9 K9 S9 L9 := m9
                    have hinv : Inv K9 S9 L9 := hok.inv
                    have hKl : K9.length = 8 * k := hok.len
                    have hLf : L9.length ≤ s.length := hok.few
                    have hsafe := hSafe.lay (stC keep)
                    have hlt9 : a < K9.length := hSafe.lt
                    clear m9 hok hSafe
                    obtain ⟨i0, hi0, hz0, hs0, hb0⟩ := info_parts bool_info
                    have HI := Lib.hid hi0
                    have HZ := Lib.hid hz0
                    have HS := Lib.hid hs0
                    have HBY := Lib.hid hb0
                    have HSAFE := Lib.hid hsafe
                    have HK9 := Lib.hid hKl
                    have HINV9 := Lib.hid hinv
                    clear hi0 hz0 hs0 hb0 hsafe hKl hinv
                    go_wp2_with (at_builtin; refine wpList_clone_n rfl (.const (.slice none 0 0)) (.tmp 132) 33 rfl 4 i0 _ 1 1 Try.underlying33 HI.out HZ.out HS.out HBY.out rfl (by decide) A4 keep.length c4 (bv keep) (hr4.below m9'.below) (by rw [bv_length, Nat.mul_one]) (bv_one keep) (by omega) (by decide) rfl rfl ?_; intro A10 c10 w10 hown hb10 hnew)
                    have m10 := m9'.pass hb10
                    refine (crash_calls m10.dev HINV9.out.pos (by omega) (by have := HK9.out; omega) HINV9.out.len A10 keep c10 hown.cel (by omega) (fun ad e _ hf => by
                      have q1 := hnew ad e
                      have q2 := m9'.dev.lt _ hf
                      omega)).mono ?_
                    rintro e w11 ⟨rfl, t⟩
                    obtain ⟨F11, m11⟩ := m10.turn t
                    clear t hown
                    go_wp2_with (fail)
                    refine (m11.load a (by rw [lay_length]; exact hlt9) (by rfl) (by rw [lay_length]; have := HK9.out; omega)).mono ?_
                    rintro e w' ⟨rfl, rfl⟩
                    rw [HSAFE.out]
                    go_wp2_with (fail)
                    refine (alive_calls w11).mono ?_
                    rintro e w12 ⟨rfl, b12⟩
                    go_wp2_with (fail)
                    go_ret
                    exact ⟨rfl, m11.below.trans (b12.mono m11.below.size)⟩
    · clear hb3
      go_wp2_with (fail)
      refine (alive_calls w).mono ?_
      rintro e w1 ⟨rfl, hb⟩
      go_wp2_with (fail)
      go_ret
      exact ⟨rfl, hb⟩
  · clear hb1
    go_wp2_with (fail)
    refine (alive_calls w).mono ?_
    rintro e w1 ⟨rfl, hb⟩
    go_wp2_with (fail)
    go_ret
    exact ⟨rfl, hb⟩
end Go.Proofs.Ytghppmgieljgiaa
