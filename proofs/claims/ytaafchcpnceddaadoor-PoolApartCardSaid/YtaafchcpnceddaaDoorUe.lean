/- The gaps of a row: a range over a function. -/
import Derived.Test.YtaafchcpnceddaaDoorUb
import Derived.RangeFuncNested
import Derived.RangeFuncBound
import Derived.RangeFuncCalls
import Derived.RangeFuncLeaves
import Derived.RangeFuncBox
import Derived.Shelf.Abstract
import Derived.Shelf.RegionOpen
import Derived.WalkKit
import Derived.OwnWalkIn
import Derived.TacticsInMore
import Derived.LoopNIn
import Derived.LoopIn
set_option linter.unusedSimpArgs false
set_option linter.unusedVariables false
namespace Go.Proofs.YtaafchcpnceddaaDoor
open Go.RowKit Go.Shelf WordMath
attribute [local go_sem] Oper.semAt_some
/-- The zeros of a word from bit p on, as ones. -/
def lft (w p : Nat) : Nat := (18446744073709551615 - w) / 2 ^ p * 2 ^ p
theorem lft_zero (w : Nat) : lft w 0 = 18446744073709551615 - w := by unfold lft; simp
theorem lft_le (w p : Nat) : lft w p ≤ 18446744073709551615 := by
  unfold lft
  have := Nat.div_mul_le_self (18446744073709551615 - w) (2 ^ p)
  omega
theorem bit_lft (w p i : Nat) (hw : w < 18446744073709551616) : (lft w p).testBit i = (decide (p ≤ i) && (decide (i < 64) && !w.testBit i)) := by
  unfold lft
  rw [Nat.testBit_mul_two_pow, Nat.testBit_div_two_pow]
  by_cases h : p ≤ i
  · rw [show i - p + p = i by omega, show 18446744073709551615 - w = 2 ^ 64 - (w + 1) by omega, Nat.testBit_two_pow_sub_succ (by simpa using hw)]
  · simp [h]
theorem and_pred (t m i : Nat) : (2 ^ t * (2 * m + 1) &&& (2 ^ t * (2 * m + 1) - 1)).testBit i = (decide (t + 1 ≤ i) && (2 ^ t * (2 * m + 1)).testBit i) := by
  have hp := Nat.two_pow_pos t
  have e : 2 ^ t * (2 * m + 1) - 1 = 2 ^ t * (2 * m) + (2 ^ t - 1) := by rw [Nat.mul_add, Nat.mul_one]; omega
  rw [Nat.testBit_and, e, Nat.testBit_two_pow_mul_add _ (by omega), Nat.testBit_two_pow_mul]
  by_cases h : i < t
  · have h1 : ¬ t ≤ i := by omega
    have h2 : ¬ t + 1 ≤ i := by omega
    simp [h1, h2]
  · by_cases h2 : i = t
    · subst h2
      simp
    · obtain ⟨d, rfl⟩ : ∃ d, i = t + 1 + d := ⟨i - (t + 1), by omega⟩
      rw [if_neg h, show t + 1 + d - t = d + 1 by omega, Nat.testBit_succ, Nat.testBit_succ, show (2 * m + 1) / 2 = m by omega, show 2 * m / 2 = m by omega]
      simp
theorem lft_step {w p : Nat} (hw : w < 18446744073709551616) (h : lft w p ≠ 0) :
    p ≤ Lib.ctz 64 (lft w p) ∧ Lib.ctz 64 (lft w p) < 64 ∧ bitN w (Lib.ctz 64 (lft w p)) = 0 ∧ (∀ j, p ≤ j → j < Lib.ctz 64 (lft w p) → bitN w j = 1) ∧ lft w p &&& (lft w p - 1) = lft w (Lib.ctz 64 (lft w p) + 1) := by
  have hle := lft_le w p
  have hb := fun i => bit_lft w p i hw
  have hb2 := fun q i => bit_lft w q i hw
  obtain ⟨m, hm, hk⟩ := Lib.ctzFrom_spec 64 (lft w p) (by omega) (by simp; omega)
  have e : Lib.ctz 64 (lft w p) = Lib.ctzFrom 64 (lft w p) := by simp [Lib.ctz, h]
  rw [e]
  generalize Lib.ctzFrom 64 (lft w p) = t at *
  have ht : (lft w p).testBit t = true := by
    rw [hm, Nat.testBit_two_pow_mul]
    simp
  have hlo : ∀ j, j < t → (lft w p).testBit j = false := fun j hj => by
    rw [hm, Nat.testBit_two_pow_mul]
    have : ¬ t ≤ j := by omega
    simp [this]
  have h1 := hb t
  rw [ht] at h1
  have h2 := h1.symm
  simp only [Bool.and_eq_true, decide_eq_true_eq, Bool.not_eq_true'] at h2
  refine ⟨h2.1, hk, ?_, ?_, ?_⟩
  · rw [bitN_testBit, h2.2.2]; rfl
  · intro j hj1 hj2
    have h3 := hb j
    rw [hlo j hj2, decide_eq_true hj1, decide_eq_true (show j < 64 by omega), Bool.true_and, Bool.true_and] at h3
    rw [bitN_testBit]
    cases hbj : w.testBit j with
    | true => rfl
    | false => rw [hbj] at h3; cases h3
  · apply Nat.eq_of_testBit_eq
    intro i
    rw [hb2 (t + 1) i]
    conv => lhs; rw [hm]
    rw [and_pred, ← hm, hb i]
    by_cases h4 : t + 1 ≤ i
    · rw [decide_eq_true h4, decide_eq_true (show p ≤ i by omega), Bool.true_and, Bool.true_and]
    · rw [decide_eq_false h4, Bool.false_and, Bool.false_and]
theorem lft_none {w p : Nat} (hw : w < 18446744073709551616) (h : lft w p = 0) : ∀ j, p ≤ j → j < 64 → bitN w j = 1 := by
  intro j hj1 hj2
  have h3 := bit_lft w p j hw
  rw [h, Nat.zero_testBit, decide_eq_true hj1, decide_eq_true hj2, Bool.true_and, Bool.true_and] at h3
  rw [bitN_testBit]
  cases hbj : w.testBit j with
  | true => rfl
  | false => rw [hbj] at h3; cases h3
/-- A number of the row. -/
abbrev Gp (l : List Nat) := { x : Nat // x < 64 * l.length }
/-- What has come when all bits below p are over. -/
def cameG (l : List Nat) : Nat → List (Gp l)
  | 0 => []
  | p + 1 => if h : p < 64 * l.length ∧ bitL l p = 0 then cameG l p ++ [⟨p, h.1⟩] else cameG l p
def gnums {l : List Nat} (s : List (Gp l)) : List Nat := s.map (·.1)
theorem gnums_snoc {l : List Nat} (s : List (Gp l)) (x : Gp l) : gnums (s ++ [x]) = gnums s ++ [x.1] := by unfold gnums; rw [List.map_append]; rfl
theorem gnums_len {l : List Nat} (s : List (Gp l)) : (gnums s).length = s.length := by unfold gnums; rw [List.length_map]
theorem gnums_came (l : List Nat) (p : Nat) (hp : p ≤ 64 * l.length) : gnums (cameG l p) = freesL l p := by
  induction p with
  | zero => simp [cameG, gnums, freesL]
  | succ p ih =>
    have ih' := ih (by omega)
    by_cases h : bitL l p = 0
    · rw [frees_succ, if_pos h, show cameG l (p + 1) = cameG l p ++ [⟨p, by omega⟩] from dif_pos ⟨by omega, h⟩, gnums_snoc, ih']
    · rw [frees_succ, if_neg h, show cameG l (p + 1) = cameG l p from dif_neg (fun hh => h hh.2), ih']
theorem came_skip (l : List Nat) {a b : Nat} (hab : a ≤ b) (h : ∀ j, a ≤ j → j < b → bitL l j = 1) : cameG l b = cameG l a := by
  obtain ⟨d, rfl⟩ : ∃ d, b = a + d := ⟨b - a, by omega⟩
  clear hab
  induction d with
  | zero => rfl
  | succ d ih =>
    rw [← Nat.add_assoc]
    show (if h : a + d < 64 * l.length ∧ bitL l (a + d) = 0 then _ else _) = _
    rw [dif_neg (fun hh => by have := h (a + d) (by omega) (by omega); omega)]
    exact ih fun j h1 h2 => h j h1 (by omega)
theorem came_one (l : List Nat) {p : Nat} (hp : p < 64 * l.length) (h : bitL l p = 0) : cameG l (p + 1) = cameG l p ++ [⟨p, hp⟩] := by
  show (if h : p < 64 * l.length ∧ bitL l p = 0 then _ else _) = _
  rw [dif_pos ⟨hp, h⟩]
theorem came_len (l : List Nat) (p : Nat) : (cameG l p).length ≤ p := by
  induction p with
  | zero => simp [cameG]
  | succ p ih =>
    unfold cameG
    split
    · rw [List.length_append, List.length_singleton]; omega
    · omega
theorem came_lt (l : List Nat) {p q : Nat} (hpq : p < q) (hq : q ≤ 64 * l.length) (h : bitL l p = 0) : (cameG l p).length < 64 * l.length := by
  have := came_len l p
  omega
/-- What the iterator has: what is left of a word. -/
theorem and64 (x y : Nat) (hx : x < 18446744073709551616) (hy : y < 18446744073709551616) : bits BinOp.and IntKind.u64 (x : Int) (y : Int) = ((x &&& y : Nat) : Int) := bits_and_u64_nat x y hx hy
set_option maxRecDepth 100000 in
set_option maxHeartbeats 2000000 in
/-- gaps's closure: for every loop body that keeps what lay below n₀. -/
theorem gaps1_in (lo Bs n₀ : Nat) (A : Option Addr) (l : List Nat) (cap : Nat) (hlen : l.length ≤ 65536) (hl : Wd l) (J Jx : List (Gp l) → World → Prop)
    (hY : ∀ pre x W, J pre W → pre.length < 64 * l.length → YieldAt Fence.wide 3 Tryd.prog lo #[.int .i64 ((x.1 : Nat) + 1 : Int)] W fun e W' =>
      (e = .returned (.bool true) ∧ J (pre ++ [x]) W' ∧ Below n₀ W W') ∨ (e = .returned (.bool false) ∧ Jx (pre ++ [x]) W'))
    (W : World) (hBs : W.cell? ⟨Bs, 0, none⟩ = some (.slice A l.length cap)) (hA : ∀ ad, 0 < l.length → A = some ad → ad.block < n₀) (hr : Row W A l) (hT : ∀ W', Below n₀ W W' → TabAt W') (h0 : J [] W) :
    CallsIn Fence.wide 4 Tryd.prog 29 #[.func (.yield lo) #[] #[], .pointer (some ⟨Bs, 0, none⟩)] W fun e W' => (∃ v, e = .returned v) ∧
      ((∃ ys, ys = cameG l (64 * l.length) ∧ J ys W') ∨ (∃ pre, (∃ q, q ≤ 64 * l.length ∧ pre = cameG l q) ∧ Jx pre W')) := by
  refine callsIn_of_wp Tryd.func29 rfl trivial ?_ rfl
  simp only [Tryd.ntmps29, List.size_toArray, List.length_cons, List.length_nil, Nat.reduceAdd, Nat.reduceSub, Array.replicate_succ, Array.replicate_zero, List.push_toArray, List.append_toArray, List.nil_append, List.cons_append]
  have HT := Lib.hid hT
  clear hT
  gi_wp2
  gi_loopw [8] (fun i wr => ∃ k : Nat, k ≤ l.length ∧ i = .int .i64 k ∧ J (cameG l (64 * k)) wr ∧ Below n₀ W wr)
    (fun i _ => l.length - (intOf i).toNat)
  case atStart => exact ⟨0, Nat.zero_le _, rfl, h0, Below.refl _ _⟩
  case round =>
    obtain ⟨k, hk, rfl, hJs, hnx⟩ := hrel
    by_cases hlt : k < l.length
    · obtain ⟨ad, rfl, hbl, hcs⟩ := hr (by omega)
      have hcx : wr.cell? (ad.add k) = some (.int .u64 ((l.getD k 0 : Nat) : Int)) := (hnx.cell (p := ad.add k) (by rw [add_block]; exact hA ad (by omega) rfl)).trans (hcs k hlt)
      have hw := hl k
      have hat : ∀ j, j < 64 → bitL l (64 * k + j) = bitN (l.getD k 0) j := fun j hj => bitL_at l k j hj
      have HAT := Lib.hid hat
      clear hat hcs
      generalize l.getD k 0 = x at *
      have hnk := Lib.hid (not_key x hw)
      gi_wp2
      gi_loopw [5] (fun v wr => ∃ p : Nat, p ≤ 64 ∧ v = .int .u64 ((lft x p : Nat) : Int) ∧ J (cameG l (64 * k + p)) wr ∧ Below n₀ W wr)
        (fun v _ => (intOf v).toNat)
      case atStart => exact ⟨0, by omega, by rw [hnk.out, lft_zero], hJs, hnx⟩
      case round =>
        obtain ⟨p, hp, rfl, hJ2, hn2⟩ := hrel
        by_cases hz : lft x p = 0
        · have hsk := came_skip l (a := 64 * k + p) (b := 64 * (k + 1)) (by omega) (fun j h1 h2 => by
            obtain ⟨d, rfl⟩ : ∃ d, j = 64 * k + d := ⟨j - 64 * k, by omega⟩
            rw [HAT.out d (by omega)]
            exact lft_none hw hz d (by omega) (by omega))
          have HSK := Lib.hid hsk
          clear hsk
          generalize lft x p = y at *
          subst hz
          gi_wp2
          go_roundw
          case rel => exact ⟨k + 1, by omega, by simp, by rw [HSK.out]; exact hJ2, hn2⟩
          case measure => simp [intOf]; omega
        · obtain ⟨t1, t2, t3, t4, t5⟩ := lft_step hw hz
          have hle := lft_le x p
          have htz := tz_calls (lft x p : Nat) wr (by omega) (by omega) (HT.out wr hn2)
          rw [Int.toNat_natCast] at htz
          have hless : lft x p &&& (lft x p - 1) < lft x p := Nat.lt_of_le_of_lt Nat.and_le_right (by omega)
          have had := and64 (lft x p) (lft x p - 1) (by omega) (by omega)
          rw [t5] at had hless
          clear t5
          generalize Lib.ctz 64 (lft x p) = t at *
          have hsk := came_skip l (a := 64 * k + p) (b := 64 * k + t) (by omega) (fun j h1 h2 => by
            obtain ⟨d, rfl⟩ : ∃ d, j = 64 * k + d := ⟨j - 64 * k, by omega⟩
            rw [HAT.out d (by omega)]
            exact t4 d (by omega) (by omega))
          have hon := came_one l (p := 64 * k + t) (by omega) (by rw [HAT.out _ t2]; exact t3)
          rw [← hsk] at hJ2
          have hcl := came_len l (64 * k + t)
          have hgp : 64 * k + t < 64 * l.length := by omega
          obtain ⟨fn, tmps, assign, body, hy, hR⟩ := hY (cameG l (64 * k + t)) ⟨64 * k + t, hgp⟩ wr hJ2 (by omega)
          rw [← hon] at hR
          clear t3 t4 hsk hon
          have HTZ := Lib.hid htz
          have HAD := Lib.hid had
          have HLESS := Lib.hid hless
          have ey : ((64 * k + t : Nat) : Int) = 64 * (k : Int) + (t : Int) := by simp
          simp only [ey] at hy
          have HY1 : Hid (((lft x p : Nat) : Int) - 1 = ((lft x p - 1 : Nat) : Int)) := by show _ = _; omega
          clear ey htz had hless hcl hgp
          obtain ⟨y, hyy⟩ : ∃ y, lft x p = y := ⟨_, rfl⟩
          rw [hyy] at HTZ HAD HLESS HY1 hle hz ⊢
          have hy1 : (y : Int) - 1 = ((y - 1 : Nat) : Int) := by omega
          clear hyy
          gi_wp2_with (refine ⟨trivial, ?_⟩; gi_at_call 30; refine (callsIn_wide.2 (show Calls Tryd.prog 30 _ _ _ from HTZ.out)).mono ?_; rintro e w' ⟨rfl, rfl⟩)
          refine hR.mono ?_
          rintro e W3 (⟨rfl, hJ3, hk3⟩ | ⟨rfl, hJx3⟩)
          · gi_wp2
            go_roundw
            case rel => exact ⟨t + 1, by omega, by rw [HAD.out], hJ3, hn2.trans hk3⟩
            case measure =>
              have h1 := HAD.out
              have h2 := HLESS.out
              simp only [h1, intOf]
              simp
              omega
          · gi_wp2
            refine bodyPost_ret (results_none rfl _ _ _) rfl ?_
            exact ⟨⟨_, rfl⟩, .inr ⟨_, ⟨64 * k + t + 1, by omega, rfl⟩, hJx3⟩⟩
    · obtain rfl : k = l.length := by omega
      gi_wp2
      go_end0
      exact ⟨⟨_, rfl⟩, .inl ⟨_, rfl, hJs⟩⟩
theorem gaps_in (a : Option Addr) (len cap : Nat) (w : World) :
    CallsIn Fence.wide 4 Tryd.prog 21 #[.slice a len cap] w fun e w' => e = .returned (.func (.func 29) #[] #[.pointer (some ⟨w.heap.size, 0, none⟩)]) ∧ w' = w.alloc (.cells #[.slice a len cap] 22) := by
  refine callsIn_of_wp Tryd.func21 rfl trivial ?_ rfl
  simp only [Tryd.ntmps21, List.size_toArray, List.length_cons, List.length_nil, Nat.reduceAdd, Nat.reduceSub, Array.replicate_succ, Array.replicate_zero, List.push_toArray, List.append_toArray, List.nil_append, List.cons_append]
  gi_wp2
  go_ret
  exact ⟨rfl, rfl⟩
/-- gaps(l) hands back a value that gives the free numbers of the row, rising. -/
theorem gaps_stops (Bs n₀ : Nat) (A : Option Addr) (l : List Nat) (cap : Nat) (hlen : l.length ≤ 65536) (hl : Wd l) (w : World) (hBs : Bs < w.heap.size) (hn : n₀ ≤ w.heap.size)
    (hc : w.cell? ⟨Bs, 0, none⟩ = some (.slice A l.length cap)) (hA : ∀ ad, 0 < l.length → A = some ad → ad.block < n₀) (hr : Row w A l) (hT : ∀ W', Below n₀ w W' → TabAt W') :
    SeqStopsK Fence.wide 4 Tryd.prog 29 #[.pointer (some ⟨Bs, 0, none⟩)] (fun x : Gp l => #[Value.int .i64 ((x.1 : Nat) + 1 : Int)]) (Below n₀) (fun ys => ys = cameG l (64 * l.length)) (fun pre => ∃ q, q ≤ 64 * l.length ∧ pre = cameG l q) (64 * l.length) w := fun lo J Jx W hW _ _ hY h0 => by
  have hc' := (hW.cell (p := ⟨Bs, 0, none⟩) hBs).trans hc
  exact gaps1_in lo Bs n₀ A l cap hlen hl J Jx hY W hc' hA (hr.below hW) (fun W' h => hT W' ((hW.mono hn).trans h)) h0
end Go.Proofs.YtaafchcpnceddaaDoor
