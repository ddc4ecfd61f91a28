/- What Decode of a slot hands back; the first word of a block, and all its words. -/
import Derived.Test.YtipghcpodhokbaaDoorDbMath
import Derived.Deep.DeepCutAuto
set_option linter.unusedSimpArgs false
set_option linter.unusedVariables false
namespace Go.Proofs.YtipghcpodhokbaaDoor
open Go.RowKit WordMath SumMath
theorem dec_calls (A : Option Addr) (l : List Nat) (c : Nat) (P I B : Int) (w : World) (hr : Row w A l) (hl : Wd l) (hcap : l.length ≤ c) (hT : TabAt w) :
    Calls Tryd.prog 21 #[.slice A l.length c, gv P I B] w fun e w' => e = .returned (.tuple #[(decV l P I B).v, errV (decBad l P I B)]) ∧ On w w' := by
  by_cases hg : GOK P I B
  · by_cases h3 : l.length = 3
    · obtain ⟨a, b, d, rfl⟩ := list3 h3
      have key := dec_rest A a b d c P I B w (rdS [a, b, d]) rfl hg hr hl hcap hT
      have hiff : decOk [a, b, d] I = true ↔ okS (rdS [a, b, d]) I = true ∧ slW (rdS [a, b, d]) = [a, b, d] := by
        unfold decOk
        simp only [Bool.and_eq_true, decide_eq_true_eq, List.length_cons, List.length_nil, true_and]
      have e1 : decBad [a, b, d] P I B = if decOk [a, b, d] I = true then none else some 7 := by unfold decBad; rw [if_neg (by simpa using hg)]
      by_cases hd : decOk [a, b, d] I = true
      · rw [if_pos (hiff.1 hd), if_pos (hiff.1 hd)] at key
        rw [if_pos hd] at e1
        have e2 : decV [a, b, d] P I B = rdS [a, b, d] := by unfold decV; rw [if_pos e1]
        rw [e1, e2]
        exact key
      · have hd2 : ¬ (okS (rdS [a, b, d]) I = true ∧ slW (rdS [a, b, d]) = [a, b, d]) := fun h => hd (hiff.2 h)
        rw [if_neg hd2, if_neg hd2] at key
        rw [if_neg hd] at e1
        have e2 : decV [a, b, d] P I B = zS := by unfold decV; rw [e1]; rfl
        rw [e1, e2]
        exact key
    · have hd : ¬ decOk l I = true := fun h => h3 (decOk_of h).1
      have e1 : decBad l P I B = some 7 := by unfold decBad; rw [if_neg (by simpa using hg), if_neg hd]
      have e2 : decV l P I B = zS := by unfold decV; rw [e1]; rfl
      rw [e1, e2]
      exact dec_len A l.length c P I B w hg h3
  · have e1 : decBad l P I B = some 2 := by unfold decBad; rw [if_pos hg]
    have e2 : decV l P I B = zS := by unfold decV; rw [e1]; rfl
    rw [e1, e2]
    exact dec_geom A l.length c P I B w hg
/-! ### the first word -/
theorem put_head1 (n : Nat) : put 0 0 8 n = n := by unfold put; simp
theorem put_head2 (n : Nat) (h : n < 256) : put n 32 32 1145655857 = headN n := by unfold put headN; simp; omega
set_option maxRecDepth 100000 in
theorem headed_calls (n : Nat) (w : World) (hn : n < 256) : Calls Tryd.prog 30 #[.int .i64 (n : Nat)] w fun e w' => e = .returned (.int .u64 (headN n : Nat)) ∧ On w w' := by
  have wn : IntKind.u64.wrap (n : Int) = (n : Int) := by rw [IntKind.wrap_u64]; omega
  have e2 := Lib.hid (put_head2 n hn)
  have hB : Blk 36 (w.alloc (.cells #[.int .u64 0] 36)) w.heap.size [0] := heap_alloc_new w _
  have HB := Lib.hid hB
  clear hB
  generalize headN n = h at *
  go_enter Tryd.func30, Tryd.ntmps30
  go_wp2_with (fail)
  refine (eput_ok 36 w.heap.size 0 [0] 0 0 8 n _ _ _ rfl rfl HB.out (by simp) rfl (by decide) (by decide) (by decide) (by simpa using hn)).mono ?_
  rintro e w1 ⟨rfl, hI, hb⟩
  rw [put_head1, show [0].set 0 n = [n] from rfl] at hI
  have b1 := Below.trans (on_alloc w (.cells #[.int .u64 0] 36)) hb
  have HI := Lib.hid hI
  clear hI hb wn
  go_wp2_with (fail)
  refine (eput_ok 36 w.heap.size 0 [n] n 32 32 1145655857 _ _ _ rfl rfl HI.out (by simp) rfl (by omega) (by decide) (by decide) (by decide)).mono ?_
  rintro e w2 ⟨rfl, hI2, hb2⟩
  rw [e2.out, show [n].set 0 h = [h] from rfl] at hI2
  have b2 := b1.trans hb2
  have c0 := hI2.cell 0 (by simp)
  have hlt := hI2.lt
  replace c0 : w2.cell? ⟨w.heap.size, 0, none⟩ = some (.int .u64 (h : Nat)) := c0
  clear HI hI2 hb2 b1
  go_wp2_with (fail)
  go_ret
  exact ⟨rfl, b2⟩
/-- May it be the number of a next block? -/
def nextB (n P I B : Int) : Bool := decide (GOK P I B) && decide (0 ≤ n ∧ n ≤ B)
set_option maxRecDepth 100000 in
theorem head_ok (n P I B : Int) (w : World) (h : nextB n P I B = true) : Calls Tryd.prog 12 #[.int .i64 n, gv P I B] w fun e w' => e = .returned (.tuple #[.int .u64 (headN n : Nat), .int .i64 0]) ∧ On w w' := by
  unfold nextB at h
  simp only [Bool.and_eq_true, decide_eq_true_eq] at h
  obtain ⟨hg, h0, h1⟩ := h
  have hB : B ≤ 255 := hg.2.2.2
  obtain ⟨n, rfl⟩ := Int.eq_ofNat_of_zero_le h0
  have hn : n < 256 := by omega
  have HG := Lib.hid hg
  have hw := wi_yes h0 h1
  have g0 : Gb (w.alloc (.cells #[.int .i64 P, .int .i64 I, .int .i64 B] 28)) w.heap.size P I B := Ob.new _ _
  have G0 := Lib.hid g0
  clear hg h1 hB g0
  go_enter Tryd.func12, Tryd.ntmps12
  go_wp2_with (fail)
  refine (check_ok P I B _ HG.out).mono ?_
  rintro e w1 ⟨rfl, hb⟩
  have g1 := Ob.on G0.out hb
  obtain ⟨c0, c1, c2⟩ := Gb.cells g1
  have hl := Ob.lt g1
  have b1 := (on_alloc w _).trans hb
  clear hb g1 G0
  go_wp2_with (fail)
  refine (wint_calls _ _ _ _).mono ?_
  rintro e w2 ⟨rfl, rfl⟩
  rw [hw]
  clear c0 c1 c2 hl hw
  go_wp2_with (fail)
  refine (headed_calls n _ hn).mono ?_
  rintro e w2 ⟨rfl, hb2⟩
  go_wp2_with (fail)
  go_ret2
  exact ⟨rfl, b1.trans hb2⟩
set_option maxRecDepth 100000 in
theorem head_bad (n P I B : Int) (w : World) (h : nextB n P I B = false) : Calls Tryd.prog 12 #[.int .i64 n, gv P I B] w fun e w' => e = .returned (.tuple #[.int .u64 0, .int .i64 2]) ∧ On w w' := by
  have g0 : Gb (w.alloc (.cells #[.int .i64 P, .int .i64 I, .int .i64 B] 28)) w.heap.size P I B := Ob.new _ _
  have G0 := Lib.hid g0
  clear g0
  by_cases hg : GOK P I B
  · have hw : wi n 0 B = false := by
      unfold nextB at h
      rw [decide_eq_true hg, Bool.true_and] at h
      exact h
    have HG := Lib.hid hg
    clear hg h
    go_enter Tryd.func12, Tryd.ntmps12
    go_wp2_with (fail)
    refine (check_ok P I B _ HG.out).mono ?_
    rintro e w1 ⟨rfl, hb⟩
    have g1 := Ob.on G0.out hb
    obtain ⟨c0, c1, c2⟩ := Gb.cells g1
    have hl := Ob.lt g1
    have b1 := (on_alloc w _).trans hb
    clear hb g1 G0
    go_wp2_with (fail)
    refine (wint_calls _ _ _ _).mono ?_
    rintro e w2 ⟨rfl, rfl⟩
    rw [hw]
    clear c0 c1 c2 hl hw
    go_wp2_with (fail)
    go_ret2
    exact ⟨rfl, b1⟩
  · have HG := Lib.hid hg
    clear hg h
    go_enter Tryd.func12, Tryd.ntmps12
    go_wp2_with (fail)
    refine (check_bad P I B _ HG.out).mono ?_
    rintro e w1 ⟨rfl, hb⟩
    have b1 := (on_alloc w _).trans hb
    clear hb G0
    go_wp2_with (fail)
    go_ret2
    exact ⟨rfl, b1⟩
end Go.Proofs.YtipghcpodhokbaaDoor
