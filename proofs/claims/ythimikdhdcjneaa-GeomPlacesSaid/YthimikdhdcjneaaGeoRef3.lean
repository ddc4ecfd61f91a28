/- The document's Words, Place, What. -/
import Derived.Test.YthimikdhdcjneaaGeoRef2
namespace Go.Proofs.Ythimikdhdcjneaa
open Go.RowKit
/-- Words of the first i regions. -/
def offL (L : List Sp) (i : Nat) : Nat := ((L.take i).map (·.m)).sum
theorem offL_zero (L : List Sp) : offL L 0 = 0 := rfl
theorem offL_step (L : List Sp) (i : Nat) (h : i < L.length) : offL L (i + 1) = offL L i + (L.getD i sp0).m := by
  unfold offL
  rw [List.take_succ_eq_append_getElem h, List.map_append, List.sum_append]
  simp only [List.getD_eq_getElem?_getD, List.getElem?_eq_getElem h, Option.getD_some, List.map_cons, List.map_nil, List.sum_cons, List.sum_nil, Nat.add_zero]
theorem offL_mono (L : List Sp) {i j : Nat} (h : i ≤ j) (hj : j ≤ L.length) : offL L i ≤ offL L j := by
  induction j with
  | zero => rw [Nat.le_zero.1 h]; exact Nat.le_refl _
  | succ j ih =>
    by_cases he : i = j + 1
    · rw [he]; exact Nat.le_refl _
    · have := ih (by omega) (by omega)
      rw [offL_step L j (by omega)]
      omega
/-- What is known of a list of regions: few, and not many words. -/
def Few (L : List Sp) : Prop := L.length ≤ 400 ∧ offL L L.length ≤ 10000
/-- The cells of one. -/
theorem Regs.at {w : World} {B g c : Nat} {L : List Sp} (h : Regs w B (.slice (some ⟨g, 0, none⟩) L.length c) L) {k : Nat} (hk : k < L.length) :
    w.cell? ⟨g, k * 4, none⟩ = some (.int .u8 ((L.getD k sp0).k : Nat)) ∧ w.cell? ⟨g, k * 4 + 1, none⟩ = some (.int .i64 ((L.getD k sp0).n : Nat)) ∧ w.cell? ⟨g, k * 4 + 2, none⟩ = some (.int .i64 0) ∧ w.cell? ⟨g, k * 4 + 3, none⟩ = some (.int .i64 ((L.getD k sp0).m : Nat)) := by
  obtain ⟨g0, c0, hv, hown, _⟩ := h
  obtain rfl : g = g0 := by
    injection hv with h1 h2 h3
    injection h1 with h1
    injection h1
  obtain ⟨ad, he, _, hc⟩ := hown.cel (by rw [sv_length]; omega)
  injection he with he
  subst he
  obtain ⟨x0, x1, x2, x3⟩ := sv_get L k hk
  exact ⟨by rw [← add_zero_block]; exact hc _ _ x0, by rw [← add_zero_block]; exact hc _ _ x1, by rw [← add_zero_block]; exact hc _ _ x2, by rw [← add_zero_block]; exact hc _ _ x3⟩
theorem words_calls (P I B : Nat) (w : World) (hP : P ≤ 8) (hI : I ≤ 64) (hB : B ≤ 255) (hF : Few (allL P I B)) :
    Calls Try.prog 14 #[gv P I B] w fun e w' => e = .returned (.int .i64 (offL (allL P I B) (allL P I B).length : Nat)) ∧ Below w.heap.size w w' := by
  have C := fun W => all_calls P I B W hP hI hB
  generalize allL P I B = L at *
  have H := Lib.hid C
  have hF1 : L.length ≤ 400 := hF.1
  have hF2 : offL L L.length ≤ 10000 := hF.2
  clear C hF
  go_enter Try.func14, Try.ntmps14
  go_wp2_with (fail)
  refine (H.out _).mono ?_
  rintro e w1 ⟨v, rfl, hR, hb1⟩
  have hbw := below_alloc hb1
  obtain ⟨g, c, rfl, hrest⟩ := id hR
  clear hrest
  go_wp2
  go_loop [4, 5] (fun n i => ∃ k q : Nat, i = .int .i64 (k : Nat) ∧ k ≤ L.length ∧ n = .int .i64 (q : Nat) ∧ q ≤ 10000 ∧ Hid (q = offL L k)) (fun _ i => L.length - (intOf i).toNat)
  case atStart => exact ⟨0, 0, rfl, Nat.zero_le _, rfl, Nat.zero_le _, rfl⟩
  case round =>
    obtain ⟨k, q, rfl, hk, rfl, hq, hQ⟩ := hrel
    by_cases hlt : k < L.length
    · obtain ⟨_, _, _, x3⟩ := hR.at hlt
      have hs := offL_step L k hlt
      have hm := offL_mono L (show k + 1 ≤ L.length by omega) (Nat.le_refl _)
      generalize (L.getD k sp0).m = m at *
      have hqm : q + m ≤ 10000 := by have := hQ.out; omega
      have hQ2 : Hid (q + m = offL L (k + 1)) := by rw [hs, ← hQ.out]; exact Lib.hid rfl
      clear hs hm
      go_wp2
      go_round
      case rel => exact ⟨k + 1, q + m, by go_num, by omega, by go_num, hqm, hQ2⟩
      case measure => simp [intOf]; omega
    · obtain rfl : k = L.length := by omega
      go_wp2
      go_ret
      exact ⟨by rw [← hQ.out]; rfl, hbw⟩
/-- It is that region. -/
def Isr (p : Sp) (k : Nat) (n : Int) : Prop := p.k = k ∧ (p.n : Int) = n
/-- None of the first i is. -/
structure NoneTo (L : List Sp) (k0 : Nat) (n0 : Int) (i : Nat) : Prop where
  all : ∀ j, j < i → ¬ Isr (L.getD j sp0) k0 n0
theorem rplace_calls (P I B k0 : Nat) (n0 : Int) (i : Nat) (w : World) (hP : P ≤ 8) (hI : I ≤ 64) (hB : B ≤ 255) (hF : Few (allL P I B)) (hi : i ≤ (allL P I B).length) (hno : NoneTo (allL P I B) k0 n0 i) (hm : i < (allL P I B).length → Isr ((allL P I B).getD i sp0) k0 n0) (hk0 : k0 ≤ 255) :
    Calls Try.prog 24 #[gv P I B, .int .u8 (k0 : Nat), .int .i64 n0] w fun e w' => e = .returned (.tuple #[.int .i64 (if i < (allL P I B).length then (offL (allL P I B) i : Nat) else 0), .bool (decide (i < (allL P I B).length))]) ∧ Below w.heap.size w w' := by
  have C := fun W => all_calls P I B W hP hI hB
  generalize allL P I B = L at *
  have H := Lib.hid C
  have hF1 : L.length ≤ 400 := hF.1
  have hF2 : offL L L.length ≤ 10000 := hF.2
  have HM := Lib.hid hm
  clear C hF hm
  go_enter Try.func24, Try.ntmps24
  go_wp2_with (fail)
  refine (H.out _).mono ?_
  rintro e w1 ⟨v, rfl, hR, hb1⟩
  have hbw := below_alloc hb1
  obtain ⟨g, c, rfl, hrest⟩ := id hR
  clear hrest
  go_wp2
  go_loop [9, 10] (fun n j => ∃ k q : Nat, j = .int .i64 (k : Nat) ∧ k ≤ i ∧ n = .int .i64 (q : Nat) ∧ q ≤ 10000 ∧ Hid (q = offL L k)) (fun _ j => i - (intOf j).toNat)
  case atStart => exact ⟨0, 0, rfl, Nat.zero_le _, rfl, Nat.zero_le _, rfl⟩
  case round =>
    obtain ⟨k, q, rfl, hk, rfl, hq, hQ⟩ := hrel
    by_cases hlt : k < L.length
    · obtain ⟨x0, x1, _, x3⟩ := hR.at hlt
      by_cases hki : k < i
      · have hn := hno.all k hki
        have hs := offL_step L k hlt
        have hmm := offL_mono L (show k + 1 ≤ L.length by omega) (Nat.le_refl _)
        generalize L.getD k sp0 = p at *
        obtain ⟨pk, pn, pm⟩ := p
        unfold Isr at hn
        simp only at hn x0 x1 x3 hs
        have hqm : q + pm ≤ 10000 := by have := hQ.out; omega
        have hQ2 : Hid (q + pm = offL L (k + 1)) := by rw [hs, ← hQ.out]; exact Lib.hid rfl
        clear hs hmm
        by_cases hk1 : pk = k0
        · have t1 : ((pk : Int) == (k0 : Int)) = true := by rw [beq_iff_eq]; omega
          have t2 : ((pn : Int) == n0) = false := by rw [beq_eq_false_iff_ne]; exact fun e => hn ⟨hk1, e⟩
          have t3 : (pk == k0) = true := by rw [beq_iff_eq]; exact hk1
          clear hn hk1
          go_wp2
          go_round
          case rel => exact ⟨k + 1, q + pm, by go_num, by omega, by go_num, hqm, hQ2⟩
          case measure => simp [intOf]; omega
        · have t1 : ((pk : Int) == (k0 : Int)) = false := by rw [beq_eq_false_iff_ne]; omega
          have t3 : (pk == k0) = false := by rw [beq_eq_false_iff_ne]; exact hk1
          clear hn hk1
          go_wp2
          go_round
          case rel => exact ⟨k + 1, q + pm, by go_num, by omega, by go_num, hqm, hQ2⟩
          case measure => simp [intOf]; omega
      · obtain rfl : k = i := by omega
        have hn := HM.out hlt
        generalize L.getD k sp0 = p at *
        obtain ⟨pk, pn, pm⟩ := p
        unfold Isr at hn
        simp only at hn x0 x1 x3
        obtain ⟨rfl, rfl⟩ := hn
        go_wp2
        go_ret2
        exact ⟨by rw [← hQ.out]; rfl, hbw⟩
    · have hki : k = i := by omega
      subst hki
      have hno' : ¬ k < L.length := hlt
      go_wp2
      go_ret2
      exact ⟨rfl, hbw⟩
theorem rwhat_out (P I B : Nat) (a : Int) (w : World) (hP : P ≤ 8) (hI : I ≤ 64) (hB : B ≤ 255) (hF : Few (allL P I B)) (ha : a < 0 ∨ (offL (allL P I B) (allL P I B).length : Int) ≤ a) (ha2 : a ≤ 9223372036854775807) (hlen : 0 < (allL P I B).length) :
    Calls Try.prog 17 #[gv P I B, .int .i64 a] w fun e w' => e = .returned (.tuple #[reg 0 0 0, .bool false]) ∧ Below w.heap.size w w' := by
  have C := fun W => all_calls P I B W hP hI hB
  generalize allL P I B = L at *
  have H := Lib.hid C
  have hF1 : L.length ≤ 400 := hF.1
  have hF2 : offL L L.length ≤ 10000 := hF.2
  clear C hF
  by_cases h0 : a < 0
  · have hd : decide (0 ≤ a) = false := by rw [decide_eq_false_iff_not]; omega
    have hL0 := Lib.hid hlen
    clear ha hlen
    go_enter Try.func17, Try.ntmps17
    go_wp2_with (fail)
    refine (H.out _).mono ?_
    rintro e w1 ⟨v, rfl, hR, hb1⟩
    obtain ⟨_, hg, hbw⟩ := later2 hb1
    obtain ⟨g, c, rfl, hrest⟩ := id hR
    clear hrest
    go_wp2
    go_loop [7, 8] (fun l j => j = .int .i64 0 ∧ l = .int .i64 a) (fun _ j => 0)
    case atStart => exact ⟨rfl, rfl⟩
    case round =>
      obtain ⟨rfl, rfl⟩ := hrel
      have hlen := hL0.out
      obtain ⟨⟨r0, r1, r2⟩, f0, f1, f2⟩ := three_own hg
      go_wp2
      exact bodyPost_ret (v := .tuple #[reg 0 0 0, .bool false]) (by simp [results, Try.results17, go_sem, r0, r1, r2]) rfl ⟨rfl, below_set (below_set (below_set hbw (by omega) 0 _) (by omega) 1 _) (by omega) 2 _⟩
  · have ha1 : (offL L L.length : Int) ≤ a := by omega
    clear ha
    have h0' : 0 ≤ a := by omega
    clear h0
    go_enter Try.func17, Try.ntmps17
    go_wp2_with (fail)
    refine (H.out _).mono ?_
    rintro e w1 ⟨v, rfl, hR, hb1⟩
    obtain ⟨_, hg, hbw⟩ := later2 hb1
    obtain ⟨g, c, rfl, hrest⟩ := id hR
    clear hrest
    go_wp2
    go_loop [7, 8] (fun l j => ∃ (k : Nat) (q : Int), j = .int .i64 (k : Nat) ∧ k ≤ L.length ∧ l = .int .i64 q ∧ 0 ≤ q ∧ q ≤ a ∧ Hid (a = offL L k + q)) (fun _ j => L.length - (intOf j).toNat)
    case atStart => exact ⟨0, a, rfl, Nat.zero_le _, rfl, h0', Int.le_refl _, by show a = ((0 : Nat) : Int) + a; omega⟩
    case round =>
      obtain ⟨k, q, rfl, hk, rfl, hq0, hq, hQ⟩ := hrel
      by_cases hlt : k < L.length
      · obtain ⟨_, _, _, x3⟩ := hR.at hlt
        have hs := offL_step L k hlt
        have hmm := offL_mono L (show k + 1 ≤ L.length by omega) (Nat.le_refl _)
        generalize (L.getD k sp0).m = m at *
        have hqm : (m : Int) ≤ q := by have := hQ.out; omega
        have hQ2 : Hid (a = offL L (k + 1) + (q - m)) := by have := hQ.out; exact Lib.hid (by omega)
        clear hs hmm
        go_wp2
        go_round
        case rel => exact ⟨k + 1, q - m, by go_num, by omega, rfl, by omega, by omega, hQ2⟩
        case measure => simp [intOf]; omega
      · obtain rfl : k = L.length := by omega
        obtain ⟨⟨r0, r1, r2⟩, f0, f1, f2⟩ := three_own hg
        go_wp2
        exact bodyPost_ret (v := .tuple #[reg 0 0 0, .bool false]) (by simp [results, Try.results17, go_sem, r0, r1, r2]) rfl ⟨rfl, below_set (below_set (below_set hbw (by omega) 0 _) (by omega) 1 _) (by omega) 2 _⟩
theorem rwhat_in (P I B i : Nat) (a : Int) (w : World) (hP : P ≤ 8) (hI : I ≤ 64) (hB : B ≤ 255) (hF : Few (allL P I B)) (hi : i < (allL P I B).length) (pk pn pm : Nat) (hp : (allL P I B).getD i sp0 = ⟨pk, pn, pm⟩) (o : Int) (ho0 : 0 ≤ o) (ho1 : o < pm) (ho : a = (offL (allL P I B) i : Nat) + o) :
    Calls Try.prog 17 #[gv P I B, .int .i64 a] w fun e w' => e = .returned (.tuple #[reg pk pn o, .bool true]) ∧ Below w.heap.size w w' := by
  have C := fun W => all_calls P I B W hP hI hB
  generalize allL P I B = L at *
  have H := Lib.hid C
  have hF1 : L.length ≤ 400 := hF.1
  have hF2 : offL L L.length ≤ 10000 := hF.2
  have hmi := offL_mono L (show i + 1 ≤ L.length by omega) (Nat.le_refl _)
  have hsi := offL_step L i hi
  rw [hp] at hsi
  simp only at hsi
  have a3 : a ≤ 10000 := by omega
  have a0 : 0 ≤ a := by omega
  have hA1 : Hid ((offL L i : Int) ≤ a) := Lib.hid (by omega)
  have hqq0 : Hid (∀ q : Int, a = (offL L i : Nat) + q → q = o) := Lib.hid (by intro q hq; omega)
  have HP := Lib.hid hp
  clear C hF hmi hsi ho hp
  go_enter Try.func17, Try.ntmps17
  go_wp2_with (fail)
  refine (H.out _).mono ?_
  rintro e w1 ⟨v, rfl, hR, hb1⟩
  obtain ⟨_, hg, hbw⟩ := later2 hb1
  obtain ⟨g, c, rfl, hrest⟩ := id hR
  clear hrest
  go_wp2
  go_loop [7, 8] (fun l j => ∃ (k : Nat) (q : Int), j = .int .i64 (k : Nat) ∧ k ≤ i ∧ l = .int .i64 q ∧ 0 ≤ q ∧ q ≤ a ∧ Hid (a = offL L k + q)) (fun _ j => i - (intOf j).toNat)
  case atStart => exact ⟨0, a, rfl, Nat.zero_le _, rfl, a0, Int.le_refl _, by show a = ((0 : Nat) : Int) + a; omega⟩
  case round =>
    obtain ⟨k, q, rfl, hk, rfl, hq0, hq, hQ⟩ := hrel
    have hlt : k < L.length := by omega
    obtain ⟨x0, x1, x2, x3⟩ := hR.at hlt
    have hs := offL_step L k hlt
    by_cases hki : k < i
    · have hmm := offL_mono L (show k + 1 ≤ i by omega) (by omega)
      generalize L.getD k sp0 = p at *
      have hqm : (p.m : Int) ≤ q := by have := hQ.out; have := hA1.out; omega
      have hQ2 : Hid (a = offL L (k + 1) + (q - p.m)) := by have := hQ.out; exact Lib.hid (by omega)
      generalize p.m = m at *
      clear hs hmm x0 x1 x2
      go_wp2
      go_round
      case rel => exact ⟨k + 1, q - m, by go_num, by omega, rfl, by omega, by omega, hQ2⟩
      case measure => simp [intOf]; omega
    · obtain rfl : k = i := by omega
      obtain rfl : q = o := hqq0.out q hQ.out
      rw [HP.out] at x0 x1 x3
      simp only at x0 x1 x3
      clear hs
      obtain ⟨⟨r0, r1, r2⟩, f0, f1, f2⟩ := three_own hg
      have hlt1 : w.heap.size + 1 < w1.heap.size := lt_of_cells hg
      go_wp2
      refine bodyPost_ret (v := .tuple #[reg pk pn q, .bool true]) ?_ rfl ⟨rfl, (below_set (below_set (below_set hbw (by omega) 0 _) (by omega) 1 _) (by omega) 2 _).alloc (by simp; omega) _⟩
      simp [results, Try.results17, go_sem, r0, r1, r2, hlt1]
end Go.Proofs.Ythimikdhdcjneaa
