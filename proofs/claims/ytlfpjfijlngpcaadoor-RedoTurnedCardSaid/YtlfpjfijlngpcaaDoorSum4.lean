/- The program's own Words: a range over a function. -/
import Derived.Test.YtlfpjfijlngpcaaDoorSum1
import Derived.RangeFuncNested
import Derived.RangeFuncBound
import Derived.RangeFuncCalls
import Derived.RangeFuncLeaves
import Derived.RangeFuncBox
import Derived.Shelf.Abstract
import Derived.Shelf.RegionOpen
import Derived.WalkKit
import Derived.OwnWalkIn
import Derived.TacticsInMore
import Derived.LoopNIn
import Derived.LoopIn
set_option linter.unusedSimpArgs false
set_option linter.unusedVariables false
namespace Go.Proofs.YtlfpjfijlngpcaaDoor
open Go.RowKit Go.Shelf SumMath
attribute [local go_sem] Oper.semAt_some

/-- A byte. -/
abbrev U8 := { x : Nat // x < 256 }
/-- What has come when k words and j bytes are over. -/
def came (l : List Nat) (k j : Nat) : List U8 := ((l.take k).map fun w => (List.range 8).map fun i => (⟨oct w i, oct_lt w i⟩ : U8)).flatten ++ (List.range j).map fun i => (⟨oct (l.getD k 0) i, oct_lt _ i⟩ : U8)
theorem came_succ (l : List Nat) (k j : Nat) : came l k (j + 1) = came l k j ++ [⟨oct (l.getD k 0) j, oct_lt _ j⟩] := by
  unfold came
  rw [List.range_succ (n := j), List.map_append, ← List.append_assoc]
  rfl
theorem came_next {l : List Nat} {k : Nat} (h : k < l.length) : came l k 8 = came l (k + 1) 0 := by
  unfold came
  rw [List.take_succ_eq_append_getElem h, List.map_append, List.flatten_append, List.range_zero, List.map_nil, List.append_nil]
  simp [List.getD_eq_getElem?_getD, List.getElem?_eq_getElem h]
structure Comes (l : List Nat) (k x : Nat) : Prop where
  all : ∀ j, came l k (j + 1) = came l k j ++ [⟨oct x j, oct_lt x j⟩]
theorem came_length (l : List Nat) {k j : Nat} (h : k ≤ l.length) : (came l k j).length = 8 * k + j := by
  unfold came
  induction k generalizing j with
  | zero => simp
  | succ k ih =>
    have := ih (j := 8) (by omega)
    rw [List.length_append] at this ⊢
    rw [List.take_succ_eq_append_getElem (by omega), List.map_append, List.flatten_append, List.length_append]
    simp at this ⊢
    omega
/-- The bytes as numbers. -/
def nums (s : List U8) : List Nat := s.map (·.1)
theorem nums_came_all (l : List Nat) : nums (came l l.length 0) = allOcts l := by
  unfold nums came allOcts octs
  rw [List.take_length]
  simp [List.map_flatten, Function.comp_def]
/-- The sum of what has come. -/
def sumOf (s : List U8) : Nat := crc M (nums s)
theorem sumOf_nil : sumOf [] = 4294967295 := rfl
theorem sumOf_snoc (s : List U8) (x : U8) : sumOf (s ++ [x]) = upd (sumOf s) x.1 := by
  unfold sumOf nums
  rw [List.map_append, crc_append]
  rfl
theorem sumOf_lt (s : List U8) : sumOf s < 4294967296 := by
  refine crc_lt (by decide) fun b hb => ?_
  unfold nums at hb
  rw [List.mem_map] at hb
  obtain ⟨x, _, rfl⟩ := hb
  exact x.2
theorem sumOf_all {l : List Nat} (h : ∀ w ∈ l, w < 18446744073709551616) : sumOf (came l l.length 0) ^^^ M = wordsV l := by
  unfold sumOf wordsV
  rw [nums_came_all, crc_all h]

set_option maxRecDepth 100000 in
set_option maxHeartbeats 2000000 in
/-- octets's closure: for every loop body that keeps what lay below n₀. -/
theorem octets1_in (F : Fence) (n : Nat) (h7 : F.fn 42) (hro : F.round = none) (hn : 1 ≤ n) (lo Bs n₀ : Nat) (A : Option Addr) (l : List Nat) (cap : Nat) (hlen : l.length ≤ 1099511627776) (hl : Wd l) (J Jx : List U8 → World → Prop)
    (hY : ∀ pre x W, J pre W → pre.length < 8 * l.length → YieldAt F (n - 1) Tryd.prog lo #[.int .u8 (x.1 : Nat)] W fun e W' =>
      (e = .returned (.bool true) ∧ J (pre ++ [x]) W' ∧ Below n₀ W W') ∨ (e = .returned (.bool false) ∧ Jx (pre ++ [x]) W'))
    (W : World) (hBs : W.cell? ⟨Bs, 0, none⟩ = some (.slice A l.length cap)) (hA : ∀ ad, 0 < l.length → A = some ad → ad.block < n₀) (hr : Row W A l) (h0 : J [] W) :
    CallsIn F n Tryd.prog 42 #[.func (.yield lo) #[] #[], .pointer (some ⟨Bs, 0, none⟩)] W fun e W' => (∃ v, e = .returned v) ∧
      ((∃ ys, ys = came l l.length 0 ∧ J ys W') ∨ (∃ pre, True ∧ Jx pre W')) := by
  refine callsIn_of_wp Tryd.func42 rfl h7 ?_ hro
  simp only [Tryd.ntmps42, List.size_toArray, List.length_cons, List.length_nil, Nat.reduceAdd, Nat.reduceSub, Array.replicate_succ, Array.replicate_zero, List.push_toArray, List.append_toArray, List.nil_append, List.cons_append]
  gi_wp2
  gi_loopw [7] (fun i wr => ∃ k : Nat, k ≤ l.length ∧ i = .int .i64 k ∧ J (came l k 0) wr ∧ Below n₀ W wr)
    (fun i _ => l.length - (intOf i).toNat)
  case atStart => exact ⟨0, Nat.zero_le _, rfl, h0, Below.refl _ _⟩
  case round =>
    obtain ⟨k, hk, rfl, hJs, hnx⟩ := hrel
    by_cases hlt : k < l.length
    · obtain ⟨ad, rfl, hbl, hcs⟩ := hr (by omega)
      have hcx : wr.cell? (ad.add k) = some (.int .u64 ((l.getD k 0 : Nat) : Int)) := (hnx.cell (p := ad.add k) (by rw [add_block]; exact hA ad (by omega) rfl)).trans (hcs k hlt)
      have hw := hl k
      have hnext := Lib.hid (came_next hlt)
      have hsucc : Comes l k (l.getD k 0) := ⟨came_succ l k⟩
      have hclen : ∀ j, (came l k j).length = 8 * k + j := fun j => came_length l (by omega)
      have HL := Lib.hid hclen
      clear hclen hcs
      generalize l.getD k 0 = x at *
      gi_wp2
      gi_loopw [4, 11] (fun v i wr => ∃ j : Nat, j ≤ 8 ∧ i = .int .i64 j ∧ v = .int .u64 ((x / 2 ^ (8 * j) : Nat) : Int) ∧ J (came l k j) wr ∧ Below n₀ W wr)
        (fun _ i _ => 8 - (intOf i).toNat)
      case atStart => exact ⟨0, by omega, rfl, by simp, hJs, hnx⟩
      case round =>
        obtain ⟨j, hj, rfl, rfl, hJ2, hn2⟩ := hrel
        by_cases hj8 : j < 8
        · have hs := Lib.hid (hsucc.all j)
          have hzl : x / 2 ^ (8 * j) < 18446744073709551616 := Nat.lt_of_le_of_lt (Nat.div_le_self _ _) hw
          have hz2 : Hid (x / 2 ^ (8 * (j + 1)) = x / 2 ^ (8 * j) / 256) := by
            show x / 2 ^ (8 * (j + 1)) = x / 2 ^ (8 * j) / 256
            rw [Nat.div_div_eq_div_mul, show 8 * (j + 1) = 8 * j + 8 by omega, Nat.pow_add]
          obtain ⟨fn, tmps, assign, body, hy, hR⟩ := hY (came l k j) ⟨oct x j, oct_lt x j⟩ wr hJ2 (by rw [HL.out]; omega)
          have ho : oct x j = x / 2 ^ (8 * j) % 256 := rfl
          rw [← hs.out] at hR
          simp only [ho] at hy
          clear ho
          generalize x / 2 ^ (8 * j) = z at *
          have e : ((z % 256 : Nat) : Int) = (z : Int) % 256 := by simp
          rw [e] at hy
          clear e
          gi_wp2
          refine hR.mono ?_
          rintro e W3 (⟨rfl, hJ3, hk3⟩ | ⟨rfl, hJx3⟩)
          · gi_wp2
            go_roundw
            case rel => exact ⟨j + 1, by omega, by simp, by rw [hz2.out]; simp, hJ3, hn2.trans hk3⟩
            case measure => simp [intOf]; omega
          · gi_wp2
            refine bodyPost_ret (results_none rfl _ _ _) rfl ?_
            exact ⟨⟨_, rfl⟩, .inr ⟨_, trivial, hJx3⟩⟩
        · obtain rfl : j = 8 := by omega
          rw [hnext.out] at hJ2
          gi_wp2
          go_roundw
          case rel => exact ⟨k + 1, by omega, by simp, hJ2, hn2⟩
          case measure => simp [intOf]; omega
    · obtain rfl : k = l.length := by omega
      gi_wp2
      go_end0
      exact ⟨⟨_, rfl⟩, .inl ⟨_, rfl, hJs⟩⟩

theorem words_octets (F : Fence) (n : Nat) (h5 : F.fn 37) (hro : F.round = none) (a : Option Addr) (len cap : Nat) (w : World) :
    CallsIn F n Tryd.prog 37 #[.slice a len cap] w fun e w' => e = .returned (.func (.func 42) #[] #[.pointer (some ⟨w.heap.size, 0, none⟩)]) ∧ w' = w.alloc (.cells #[.slice a len cap] 25) := by
  refine callsIn_of_wp Tryd.func37 rfl h5 ?_ hro
  simp only [Tryd.ntmps37, List.size_toArray, List.length_cons, List.length_nil, Nat.reduceAdd, Nat.reduceSub, Array.replicate_succ, Array.replicate_zero, List.push_toArray, List.append_toArray, List.nil_append, List.cons_append]
  gi_wp2
  go_ret
  exact ⟨rfl, rfl⟩
/-- octets(l) hands back a value that gives the bytes of l, in order. -/
theorem octets_stops (F : Fence) (n : Nat) (h7 : F.fn 42) (hro : F.round = none) (hn : 1 ≤ n) (Bs n₀ : Nat) (A : Option Addr) (l : List Nat) (cap : Nat) (hlen : l.length ≤ 1099511627776) (hl : Wd l) (w : World) (hBs : Bs < w.heap.size) (_ : n₀ ≤ w.heap.size)
    (hc : w.cell? ⟨Bs, 0, none⟩ = some (.slice A l.length cap)) (hA : ∀ ad, 0 < l.length → A = some ad → ad.block < n₀) (hr : Row w A l) :
    SeqStopsK F n Tryd.prog 42 #[.pointer (some ⟨Bs, 0, none⟩)] (fun x : U8 => #[Value.int .u8 ((x.1 : Nat) : Int)]) (Below n₀) (fun ys => ys = came l l.length 0) (fun _ => True) (8 * l.length) w := fun lo J Jx W hW _ _ hY h0 => by
  have hc' := (hW.cell (p := ⟨Bs, 0, none⟩) hBs).trans hc
  exact octets1_in F n h7 hro hn lo Bs n₀ A l cap hlen hl J Jx hY W hc' hA (hr.below hW) h0

set_option maxRecDepth 100000 in
set_option maxHeartbeats 2000000 in
theorem words_calls (A : Option Addr) (l : List Nat) (c : Nat) (w : World) (hr : Row w A l) (hl : Wd l) (hm : ∀ x ∈ l, x < 18446744073709551616) (hlen : l.length ≤ 1099511627776) (hT : TabAt w) :
    Calls Tryd.prog 27 #[.slice A l.length c] w fun e W' => e = .returned (.int .u32 (wordsV l : Nat)) ∧ Below w.heap.size w W' := by
  have kv := Lib.hid (sumOf_all hm)
  have HT := Lib.hid hT
  clear hT hm
  refine (callsIn_wide (n := 5)).1 ?_
  refine callsIn_of_wp_marks Tryd.func27 rfl trivial ?_ rfl
  simp only [Tryd.ntmps27, List.size_toArray, List.length_cons, List.length_nil, Nat.reduceAdd, Nat.reduceSub, Array.replicate_succ, Array.replicate_zero, List.push_toArray, List.append_toArray, List.nil_append, List.cons_append]
  gi_wp2_with (refine ⟨trivial, ?_⟩; gi_at_call 37; refine (words_octets Fence.wide 4 trivial rfl _ _ _ _).mono ?_; rintro e w' ⟨rfl, rfl⟩)
  have bS := Boxed.new w 48 (.int .u32 4294967295)
  have bN := Boxed.new (w.alloc (.cells #[.int .u32 4294967295] 48)) 25 (.slice A l.length c)
  rw [World.size_alloc] at bN
  have hB0 : Below w.heap.size w ((w.alloc (.cells #[.int .u32 4294967295] 48)).alloc (.cells #[.slice A l.length c] 25)) := ((Below.refl _ w).alloc (Nat.le_refl _) _).alloc (by simp) _
  refine wpIn_rangeFunc_ownG rfl (show 1 ≤ 5 by decide) (gf := 42) (lb := #[.pointer (some ⟨w.heap.size + 1, 0, none⟩)]) rfl trivial (enters_of Tryd.func42 (by kernel_rfl) rfl)
    (octets_stops Fence.wide 4 trivial rfl (by omega) (w.heap.size + 1) w.heap.size A l c hlen hl _ (by simp) (by simp; omega) bN.cell (fun ad h0 e => by obtain ⟨ad', e', h, _⟩ := hr h0; rw [e] at e'; injection e' with e'; subst e'; exact h) (hr.below hB0)) belowK_t (belowK_b (by simp; omega)) (Below.refl _ _) (fun _ => rfl)
    (fun pre W => (W.cell? ⟨w.heap.size, 0, none⟩ = some (.int .u32 ((sumOf pre : Nat) : Int)) ∧ W.frozen? ⟨w.heap.size, 0, none⟩ = false) ∧ Below w.heap.size w W)
    (fun _ _ _ => False)
    (OwnFrom.and (Own.from (fun s A B row hs hg hr => ⟨cell_kept hs.1 hg hr, (frozen_kept hs.1 hg hr).trans hs.2⟩) _) (ownFrom_below (Nat.le_refl _) (by simp; omega)))
    (fun _ _ _ _ _ hs _ _ => hs)
    ⟨⟨(bS.alloc _).cell, (bS.alloc _).frozen⟩, hB0⟩
    (fun x => { tmps := #[.slice A l.length c, undef, .int .u32 0, .pointer (some ⟨w.heap.size, 0, none⟩), .int .u8 ((x.1 : Nat) : Int), .slice A l.length c, .func (.func 42) #[] #[.pointer (some ⟨w.heap.size + 1, 0, none⟩)], .int .u8 ((x.1 : Nat) : Int), undef, undef, undef, undef, undef], defers := [] }) ?assign ?body ?done ?stop
  case assign =>
    intro l x W K hK
    gi_wp2
    exact hK
  case body =>
    rintro l pre x W ⟨⟨hc, hf⟩, hB⟩ _
    have ht := Lib.hid (HT.out.below hB)
    have hs := Lib.hid (sumOf_snoc pre x)
    have hx := sumOf_lt pre
    have hx2 := x.2
    gi_wp2_with (refine ⟨trivial, ?_⟩; gi_at_call 38; refine (CallsIn.inRound l (callsIn_wide.2 (update_calls _ _ _ hx hx2 ht.out))).mono ?_; rintro e w' ⟨rfl, rfl⟩)
    exact ⟨(KeepsOthers.setCell _ _ _).from _, (Below.refl w.heap.size W).setCell (p := ⟨w.heap.size, 0, none⟩) (Nat.le_refl _) _, ⟨by rw [hs.out]; exact World.cell?_setCell_same' _ _ _ (by rw [hc]; rfl), by rw [World.frozen?_setCell]; exact hf⟩, hB.setCell (p := ⟨w.heap.size, 0, none⟩) (Nat.le_refl _) _⟩
  case done =>
    rintro D ys W hD rfl ⟨⟨hc, _⟩, hB⟩ hK
    have k1 := Lib.hid (flip_key _ (sumOf_lt (came l l.length 0)))
    gi_wp2_with (first | rw [k1.out])
    refine ⟨by simp, .inl ⟨_, _, rfl, run_takeDeferred hK, ?_⟩⟩
    exact ⟨_, results_tmp rfl _ _ _, by rw [← kv.out]; rfl, hB.trans (belowK_b (w := w) (Nat.le_refl _) W D _ _ (by simp at hD; omega) hK rfl rfl)⟩
  case stop =>
    rintro D c pre W _ _ h _
    exact h.elim
end Go.Proofs.YtlfpjfijlngpcaaDoor
