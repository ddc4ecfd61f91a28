/- MediaOf: whatever it is called with, it hands back true; nothing that was there has turned. -/
import Derived.Test.YtghppmgieljgiaaMedAlive
import Derived.Test.YtghppmgieljgiaaSame
namespace Go.Proofs.Ytghppmgieljgiaa
open Go.RowKit
theorem cel_of_row {w : World} {A : Option Addr} {l : List Nat} (h : Row w A l) : Cel w A (wv l) := fun h0 => by
  rw [wv_length] at h0
  obtain ⟨ad, e, hl, hc⟩ := h h0
  refine ⟨ad, e, hl, fun j u hu => ?_⟩
  have hj : j < l.length := by have := (List.getElem?_eq_some_iff.1 hu).1; rwa [wv_length] at this
  rw [wv_get l j hj] at hu
  injection hu with hu
  rw [← hu]
  exact hc j hj
theorem same_self (A B : Option Addr) (l : List Nat) (c d : Nat) (w : World) (ha : Row w A l) (hb : Row w B l) (hlen : l.length ≤ 140737488355328) :
    Calls Try.prog 26 #[.slice A l.length c, .slice B l.length d] w fun e w' => e = .returned (.bool true) ∧ Below w.heap.size w w' ∧ w'.heap = w.heap := by
  have h := same_calls A B l l c d w ha hb hlen hlen
  rw [sameV_self] at h
  refine h.mono ?_
  rintro e w' ⟨rfl, m, rfl⟩
  exact ⟨rfl, below_drewN (Below.refl _ _) m, rfl⟩
theorem OwnR.row {w : World} {e : TypeId} {A : Option Addr} {n c : Nat} {l : List Nat} (h : OwnR w e 1 A n c (wv l)) : Row w A l := Row.of_cel h.cel
set_option maxRecDepth 100000 in
theorem of_law_calls (A : Option Addr) (l : List Nat) (c : Nat) (a : Int) (v : Nat) (w : World) (hr : Row w A l) (hlen : l.length ≤ 9223372036854775807) :
    Calls Try.prog 4 #[.slice A l.length c, .int .i64 a, .int .u64 (v : Nat)] w fun e w' => e = .returned (.bool true) ∧ Below w.heap.size w w' := by
  by_cases hbig : 400 < l.length
  · go_enter Try.func4, Try.ntmps4
    go_wp2_with (go_at_call 9; refine (alive_calls _).mono ?_; rintro e w' ⟨rfl, hb⟩)
    go_ret
    exact ⟨rfl, hb⟩
  have hl4 : l.length ≤ 400 := by omega
  have hcel := cel_of_row hr
  obtain ⟨i0, hi0, hz0, hs0, hb0⟩ := info_parts u64_info
  have HI := Lib.hid hi0
  have HZ := Lib.hid hz0
  have HS := Lib.hid hs0
  have HB := Lib.hid hb0
  clear hi0 hz0 hs0 hb0
  by_cases hbad : l.length % 8 ≠ 0 ∨ l.length / 8 < 1
  · have C2 := fun w2 => rof_bad w2 A l.length c (by omega) (by omega)
    have C1 := fun w1 A1 c1 => of_bad w1 A1 l.length c1 (by omega) (by omega)
    have H1 := Lib.hid C1
    have H2 := Lib.hid C2
    clear C1 C2 hbad
    go_enter Try.func4, Try.ntmps4
    go_wp2_with (at_builtin; refine wpList_clone_n rfl (.const (.slice none 0 0)) (.tmp 15) 50 rfl 32 i0 _ 1 8 Try.underlying50 HI.out HZ.out HS.out HB.out rfl (by decide) A l.length c (wv l) hcel (by rw [wv_length, Nat.mul_one]) (wv_one l) (by omega) (by decide) rfl rfl ?_; intro A1 c1 w1 hown hb1 hnew)
    refine (H1.out w1 A1 c1).mono ?_
    rintro e w' ⟨rfl, rfl⟩
    go_wp2_with (fail)
    refine (H2.out w1).mono ?_
    rintro e w' ⟨rfl, rfl⟩
    go_wp2_with (fail)
    refine (alive_calls w1).mono ?_
    rintro e w2 ⟨rfl, hb2⟩
    go_wp2_with (fail)
    go_ret
    exact ⟨rfl, hb1.trans (hb2.mono hb1.size)⟩
  · obtain ⟨n, hn⟩ : ∃ n, l.length = 8 * n := ⟨l.length / 8, by omega⟩
    have hn1 : 1 ≤ n := by omega
    have hn2 : n ≤ 50 := by omega
    have HN := Lib.hid hn
    have hlc : ((l.length : Nat) : Int) / 8 = (n : Int) := by omega
    clear hbad hn hlen hbig
    go_enter Try.func4, Try.ntmps4
    go_wp2_with (at_builtin; refine wpList_clone_n rfl (.const (.slice none 0 0)) (.tmp 15) 50 rfl 32 i0 _ 1 8 Try.underlying50 HI.out HZ.out HS.out HB.out rfl (by decide) A l.length c (wv l) hcel (by rw [wv_length, Nat.mul_one]) (wv_one l) (by omega) (by decide) rfl rfl ?_; intro A1 c1 w1 hown hb1 hnew)
    refine (of_calls w1 A1 l c1 n hown.cel HN.out hn1 (by omega)).mono ?_
    intro e w2 h
    obtain ⟨g, F, rfl, m2⟩ := Mine.of_new h
    clear h
    have b2 : Below w.heap.size w w2 := hb1.trans (m2.below.mono hb1.size)
    go_wp2_with (fail)
    refine (rof_calls w2 A l c n (hr.below b2) HN.out hn1 (by omega)).mono ?_
    rintro e w3 ⟨h3, rfl, _, b3⟩
    have m3 := m2.pass b3
    go_wp2_with (fail)
    refine (m3.lines n HN.out (by omega)).mono ?_
    rintro e w' ⟨rfl, rfl⟩
    go_wp2_with (fail)
    refine (kept_calls m3.dev (by omega)).mono ?_
    rintro e w4 ⟨A4, c4, rfl, o4, b4, _⟩
    have m4 := m3.pass b4
    have z1 := hb1.size
    have bw4 := hb1.trans (m4.below.mono z1)
    go_wp2_with (fail)
    refine (same_self A4 A l c4 c w4 o4.row (hr.below bw4) (by omega)).mono ?_
    rintro e w5 ⟨rfl, b5, _⟩
    have m5 := m4.pass b5
    go_wp2_with (fail)
    refine (words_calls m5.dev (by omega)).mono ?_
    rintro e w6 ⟨A6, c6, rfl, o6, b6, _⟩
    have m6 := m5.pass b6
    have bw6 := hb1.trans (m6.below.mono z1)
    go_wp2_with (fail)
    refine (same_self A6 A l c6 c w6 o6.row (hr.below bw6) (by omega)).mono ?_
    rintro e w7 ⟨rfl, b7, _⟩
    have m7 := m6.pass b7
    go_wp2_with (fail)
    refine (pending_calls m7.dev (by decide)).mono ?_
    rintro e w8 ⟨A8, c8, rfl, o8, b8, _⟩
    have m8 := m7.pass b8
    by_cases hp : 0 ≤ a ∧ a < l.length
    · obtain ⟨b, rfl⟩ := Int.eq_ofNat_of_zero_le hp.1
      have hb : b < l.length := by omega
      clear hp
      go_wp2_with (fail)
      refine (store_in m8.dev b v hb rfl (by omega) (by decide)).mono ?_
      rintro e w9 ⟨rfl, t⟩
      obtain ⟨F9, m9⟩ := m8.turn t
      clear t
      go_wp2_with (fail)
      have bw9 := hb1.trans (m9.below.mono z1)
      refine (same_self A1 A l c1 c w9 (hown.row.below m9.below) (hr.below bw9) (by omega)).mono ?_
      rintro e w10 ⟨rfl, b10, _⟩
      have m10 := m9.pass b10
      go_wp2_with (fail)
      refine (kept_calls m10.dev (by omega)).mono ?_
      rintro e w11 ⟨A11, c11, rfl, o11, b11, _⟩
      have m11 := m10.pass b11
      have bw11 := hb1.trans (m11.below.mono z1)
      go_wp2_with (fail)
      refine (same_self A11 A l c11 c w11 o11.row (hr.below bw11) (by omega)).mono ?_
      rintro e w12 ⟨rfl, b12, _⟩
      have m12 := m11.pass b12
      have bw12 := hb1.trans (m12.below.mono z1)
      go_wp2_with (fail)
      refine (alive_calls w12).mono ?_
      rintro e w13 ⟨rfl, b13⟩
      have bw13 := bw12.trans (b13.mono bw12.size)
      go_wp2_with (fail)
      go_ret
      exact ⟨rfl, bw13⟩
    · have HP := Lib.hid hp
      by_cases ha : a < 0
      · clear hp
        go_wp2_with (fail)
        refine (store_out m8.dev a v HP.out (by omega)).mono ?_
        rintro e w9 ⟨rfl, rfl⟩
        have m9 := m8
        go_wp2_with (fail)
        have bw8 := hb1.trans (m9.below.mono z1)
        refine (same_self A1 A l c1 c w8 (hown.row.below m9.below) (hr.below bw8) (by omega)).mono ?_
        rintro e w10 ⟨rfl, b10, _⟩
        have m10 := m9.pass b10
        go_wp2_with (fail)
        refine (kept_calls m10.dev (by omega)).mono ?_
        rintro e w11 ⟨A11, c11, rfl, o11, b11, _⟩
        have m11 := m10.pass b11
        have bw11 := hb1.trans (m11.below.mono z1)
        go_wp2_with (fail)
        refine (same_self A11 A l c11 c w11 o11.row (hr.below bw11) (by omega)).mono ?_
        rintro e w12 ⟨rfl, b12, _⟩
        have m12 := m11.pass b12
        have bw12 := hb1.trans (m12.below.mono z1)
        go_wp2_with (fail)
        refine (alive_calls w12).mono ?_
        rintro e w13 ⟨rfl, b13⟩
        have bw13 := bw12.trans (b13.mono bw12.size)
        go_wp2_with (fail)
        go_ret
        exact ⟨rfl, bw13⟩
      · have ha1 : 0 ≤ a := by omega
        have ha2 : (l.length : Int) ≤ a := by omega
        clear hp ha
        go_wp2_with (fail)
        refine (store_out m8.dev a v HP.out (by omega)).mono ?_
        rintro e w9 ⟨rfl, rfl⟩
        have m9 := m8
        go_wp2_with (fail)
        have bw8 := hb1.trans (m9.below.mono z1)
        refine (same_self A1 A l c1 c w8 (hown.row.below m9.below) (hr.below bw8) (by omega)).mono ?_
        rintro e w10 ⟨rfl, b10, _⟩
        have m10 := m9.pass b10
        go_wp2_with (fail)
        refine (kept_calls m10.dev (by omega)).mono ?_
        rintro e w11 ⟨A11, c11, rfl, o11, b11, _⟩
        have m11 := m10.pass b11
        have bw11 := hb1.trans (m11.below.mono z1)
        go_wp2_with (fail)
        refine (same_self A11 A l c11 c w11 o11.row (hr.below bw11) (by omega)).mono ?_
        rintro e w12 ⟨rfl, b12, _⟩
        have m12 := m11.pass b12
        have bw12 := hb1.trans (m12.below.mono z1)
        go_wp2_with (fail)
        refine (alive_calls w12).mono ?_
        rintro e w13 ⟨rfl, b13⟩
        have bw13 := bw12.trans (b13.mono bw12.size)
        go_wp2_with (fail)
        go_ret
        exact ⟨by simp [ha2], bw13⟩
end Go.Proofs.Ytghppmgieljgiaa
