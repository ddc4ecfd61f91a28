/- The first of the words that no record of its kind has. -/
import Derived.Test.YtppnicdhahgigaaDoorIno5
import Derived.Test.YtppnicdhahgigaaDoorSame
namespace Go.Proofs.YtppnicdhahgigaaDoor
open Go.RowKit WordMath
/-- The record of some words. -/
def rdW (v0 v1 v2 v3 v4 v5 v6 : Nat) : Ino :=
  if fld v0 0 8 = 2 then ⟨fld v0 0 8, fld v0 8 8, fld v0 32 32, i64 v1, i64 v2, 0, fld v3 0 8, fld v3 8 8, fld v3 16 8, fld v3 24 8, i64 v4, i64 v5, i64 v6⟩
  else ⟨fld v0 0 8, fld v0 8 8, fld v0 32 32, i64 v1, i64 v2, i64 v3, 0, 0, 0, 0, i64 v4, i64 v5, i64 v6⟩
def rdL (l : List Nat) : Ino := rdW (l.getD 0 0) (l.getD 1 0) (l.getD 2 0) (l.getD 3 0) (l.getD 4 0) (l.getD 5 0) (l.getD 6 0)
theorem wrap8 {n : Nat} (h : n < 256) : IntKind.u8.wrap (n : Int) = n := by simp [IntKind.wrap, IntKind.bits, IntKind.signed]; omega
theorem wrap32 {n : Nat} (h : n < 4294967296) : IntKind.u32.wrap (n : Int) = n := by simp [IntKind.wrap, IntKind.bits, IntKind.signed]; omega
theorem wrap64 {n : Nat} (h : n < 256) : IntKind.i64.wrap (n : Int) = n := by rw [i64_wrap n (by omega)]; unfold i64; rw [if_pos (by omega)]
theorem fld8 (w a : Nat) : fld w a 8 < 256 := fld_lt w a 8
theorem fld32 (w a : Nat) : fld w a 32 < 4294967296 := fld_lt w a 32
theorem list8 {l : List Nat} (h : l.length = 8) : l = [l.getD 0 0, l.getD 1 0, l.getD 2 0, l.getD 3 0, l.getD 4 0, l.getD 5 0, l.getD 6 0, l.getD 7 0] := by
  match l, h with
  | [a, b, c, d, e, f, g, i], _ => rfl
theorem read_calls (l : List Nat) (w : World) (hl : Wd l) (h8 : l.length = 8) : Calls Tryd.prog 27 #[.agg (wv l).toArray] w fun e w' => e = .returned (rdL l).v ∧ Below w.heap.size w w' := by
  have h0 := hl 0
  have h1 := hl 1
  have h2 := hl 2
  have h3 := hl 3
  have h4 := hl 4
  have h5 := hl 5
  have h6 := hl 6
  have e := list8 h8
  unfold rdL
  rw [e]
  generalize l.getD 0 0 = v0 at *
  generalize l.getD 1 0 = v1 at *
  generalize l.getD 2 0 = v2 at *
  generalize l.getD 3 0 = v3 at *
  generalize l.getD 4 0 = v4 at *
  generalize l.getD 5 0 = v5 at *
  generalize l.getD 6 0 = v6 at *
  generalize l.getD 7 0 = v7 at *
  clear e h8 hl
  show Calls _ _ #[.agg #[.int .u64 v0, .int .u64 v1, .int .u64 v2, .int .u64 v3, .int .u64 v4, .int .u64 v5, .int .u64 v6, .int .u64 v7]] _ fun e w' => e = .returned (rdW v0 v1 v2 v3 v4 v5 v6).v ∧ _
  by_cases hk : fld v0 0 8 = 2
  · have := read_dir v0 v1 v2 v3 v4 v5 v6 v7 w h0 h3 _ _ _ rfl rfl rfl _ _ _ _ _ (i64_wrap v1 h1) (i64_wrap v2 h2) (i64_wrap v4 h4) (i64_wrap v5 h5) (i64_wrap v6 h6) (wrap8 (fld8 v0 0)) (wrap64 (fld8 v0 8)) (wrap32 (fld32 v0 32)) (by omega) _ _ _ _ rfl rfl rfl rfl (wrap64 (fld8 v3 0)) (wrap64 (fld8 v3 8)) (wrap64 (fld8 v3 16)) (wrap64 (fld8 v3 24))
    unfold rdW
    rw [if_pos hk]
    exact this
  · have := read_other v0 v1 v2 v3 v4 v5 v6 v7 w h0 h3 _ _ _ rfl rfl rfl _ _ _ _ _ _ (i64_wrap v1 h1) (i64_wrap v2 h2) (i64_wrap v4 h4) (i64_wrap v5 h5) (i64_wrap v6 h6) (i64_wrap v3 h3) (wrap8 (fld8 v0 0)) (wrap64 (fld8 v0 8)) (wrap32 (fld32 v0 32)) (by omega)
    unfold rdW
    rw [if_neg hk]
    exact this
/-- r is the first below n that lacks p; n: there is none. -/
structure IsFirst (p : Nat → Prop) (n r : Nat) : Prop where
  le : r ≤ n
  all : ∀ j, j < r → p j
  no : r < n → ¬ p r
theorem IsFirst.uniq {p : Nat → Prop} {n r s : Nat} (h : IsFirst p n r) (k : IsFirst p n s) : r = s := by
  rcases Nat.lt_trichotomy r s with hlt | he | hlt
  · exact absurd (k.all r hlt) (h.no (by have := k.le; omega))
  · exact he
  · exact absurd (h.all s hlt) (k.no (by have := h.le; omega))
theorem mis_range (x : Ino) (I B : Int) : 0 ≤ misV x I B ∧ misV x I B ≤ 7 := by
  unfold misV misB
  repeat' split
  all_goals omega
set_option maxRecDepth 100000 in
set_option maxHeartbeats 2000000 in
theorem wrong_calls (l : List Nat) (x : Ino) (P I B : Int) (w : World) (h8 : l.length = 8) (hx : Small x) :
    Calls Tryd.prog 28 #[.agg (wv l).toArray, x.v, gv P I B] w fun e w' => ∃ r : Nat, e = .returned (.int .i64 (r : Nat)) ∧ IsFirst (fun j => l.getD j 0 = (wrL x).getD j 0) (misV x I B).toNat r ∧ Below w.heap.size w w' := by
  have hm := mis_range x I B
  have hM := fun W => mis_calls P I B x W
  have hR := fun W => written_calls x W hx
  obtain ⟨n, hn⟩ : ∃ n : Nat, misV x I B = n := ⟨(misV x I B).toNat, by omega⟩
  rw [hn] at hM ⊢
  have hn7 : n ≤ 7 := by omega
  have hlm : (wrL x).length = 8 := rfl
  have em := list8 hlm
  generalize (wrL x).getD 0 0 = m0 at em
  generalize (wrL x).getD 1 0 = m1 at em
  generalize (wrL x).getD 2 0 = m2 at em
  generalize (wrL x).getD 3 0 = m3 at em
  generalize (wrL x).getD 4 0 = m4 at em
  generalize (wrL x).getD 5 0 = m5 at em
  generalize (wrL x).getD 6 0 = m6 at em
  generalize (wrL x).getD 7 0 = m7 at em
  rw [em] at hR
  rw [em]
  have hR' : ∀ W, Calls Tryd.prog 16 #[x.v] W fun e w' => e = .returned (.agg #[.int .u64 (m0 : Nat), .int .u64 (m1 : Nat), .int .u64 (m2 : Nat), .int .u64 (m3 : Nat), .int .u64 (m4 : Nat), .int .u64 (m5 : Nat), .int .u64 (m6 : Nat), .int .u64 (m7 : Nat)]) ∧ Below W.heap.size W w' := hR
  clear hm hn hx em hlm hR
  go_enter Tryd.func28, Tryd.ntmps28
  go_wp2_with (fail)
  refine (hM _).mono ?_
  rintro e w1 ⟨rfl, hb1⟩
  have hb0 : Below w.heap.size w (((w.alloc (.cells (wv l).toArray 48)).alloc (.cells x.c 25)).alloc (.cells #[.int .i64 P, .int .i64 I, .int .i64 B] 27)) := (((Below.refl _ _).alloc (Nat.le_refl _) _).alloc (by simp) _).alloc (by simp <;> omega) _
  have bw1 := Below.trans hb0 (hb1.mono (by simp <;> omega))
  have hl1 : Blk 48 w1 w.heap.size l := by
    have h := Blk.below (B := w.heap.size + 1) (heap_alloc_new w (.cells (wv l).toArray 48)) (((Below.refl (w.heap.size + 1) _).alloc (by simp) (.cells x.c 25)).alloc (by simp) (.cells #[.int .i64 P, .int .i64 I, .int .i64 B] 27)) (by omega)
    exact Blk.below h hb1 (by simp <;> omega)
  have ix1 : Ib w1 (w.heap.size + 1) x := by
    have h := Ib.new (w.alloc (.cells (wv l).toArray 48)) x
    rw [World.size_alloc] at h
    exact (h.below (k := w.heap.size + 1 + 1) ((Below.refl _ _).alloc (by simp) (.cells #[.int .i64 P, .int .i64 I, .int .i64 B] 27)) (by omega)).below hb1 (by simp <;> omega)
  have hlt := ix1.lt
  have hs1 := bw1.size
  clear hb0 hb1 hM
  obtain ⟨x0, x1, x2, x3, x4, x5, x6, x7, x8, x9, x10, x11, x12⟩ := ix1.cells
  go_wp2_with (fail)
  refine (hR' _).mono ?_
  rintro e w2 ⟨rfl, hb2⟩
  have bw2 := bw1.trans (hb2.mono hs1)
  have hl2 := hl1.below hb2 hl1.lt
  have hs2 := bw2.size
  have hll := hl2.lt
  clear x0 x1 x2 x3 x4 x5 x6 x7 x8 x9 x10 x11 x12 hR' hb2 ix1 hl1 bw1 hlt hs1
  have hl3 := Lib.hid (hl2.below ((Below.refl w2.heap.size w2).alloc (Nat.le_refl _) (.cells #[.int .u64 (m0 : Nat), .int .u64 (m1 : Nat), .int .u64 (m2 : Nat), .int .u64 (m3 : Nat), .int .u64 (m4 : Nat), .int .u64 (m5 : Nat), .int .u64 (m6 : Nat), .int .u64 (m7 : Nat)] 48)) hll)
  have hm3 : Hid (Blk 48 (w2.alloc (.cells #[.int .u64 (m0 : Nat), .int .u64 (m1 : Nat), .int .u64 (m2 : Nat), .int .u64 (m3 : Nat), .int .u64 (m4 : Nat), .int .u64 (m5 : Nat), .int .u64 (m6 : Nat), .int .u64 (m7 : Nat)] 48)) w2.heap.size [m0, m1, m2, m3, m4, m5, m6, m7]) := Lib.hid (heap_alloc_new w2 _)
  have bw3 := Lib.hid (bw2.alloc hs2 (.cells #[.int .u64 (m0 : Nat), .int .u64 (m1 : Nat), .int .u64 (m2 : Nat), .int .u64 (m3 : Nat), .int .u64 (m4 : Nat), .int .u64 (m5 : Nat), .int .u64 (m6 : Nat), .int .u64 (m7 : Nat)] 48))
  have HN7 := Lib.hid hn7
  clear hl2 bw2 hs2 hn7
  go_wp2_with (fail)
  generalize w2.alloc (.cells #[.int .u64 (m0 : Nat), .int .u64 (m1 : Nat), .int .u64 (m2 : Nat), .int .u64 (m3 : Nat), .int .u64 (m4 : Nat), .int .u64 (m5 : Nat), .int .u64 (m6 : Nat), .int .u64 (m7 : Nat)] 48) = W at *
  have hmk := hm3.out.lt
  go_loopw [16] (fun i wr => ∃ k : Nat, i = .int .i64 k ∧ k ≤ n ∧ SameTo l [m0, m1, m2, m3, m4, m5, m6, m7] k ∧ ∃ q, wr = W.drewN q) (fun i _ => n - (intOf i).toNat)
  case atStart => exact ⟨0, rfl, by omega, ⟨fun j hj => absurd hj (by omega)⟩, 0, rfl⟩
  case round =>
    obtain ⟨k, rfl, hk, hs, q, rfl⟩ := hrel
    by_cases h1 : k < n
    · have hk7 : k < 8 := by have := HN7.out; omega
      have hk8 : (k : Int) < 8 := by omega
      have c1 := hl3.out.cell k (by omega)
      have c2 := hm3.out.cell k (by simp; omega)
      by_cases he : l.getD k 0 = [m0, m1, m2, m3, m4, m5, m6, m7].getD k 0
      · have hs' : SameTo l [m0, m1, m2, m3, m4, m5, m6, m7] (k + 1) := ⟨fun j hj => by
          by_cases h : j < k
          · exact hs.all j h
          · obtain rfl : j = k := by omega
            exact he⟩
        rw [← he] at c2
        generalize l.getD k 0 = y at c1 c2
        clear he hs
        have hs' := Lib.hid hs'
        go_wp2_with (fail)
        go_quiet (fail)
        go_wp2_with (fail)
        go_roundw
        case rel => exact ⟨k + 1, by go_num, by omega, hs'.out, _, rfl⟩
        case measure => simp [intOf]; omega
      · have hne : ((l.getD k 0 : Int) == ([m0, m1, m2, m3, m4, m5, m6, m7].getD k 0 : Nat)) = false := by rw [beq_eq_false_iff_ne]; omega
        have hfin : Hid (IsFirst (fun j => l.getD j 0 = [m0, m1, m2, m3, m4, m5, m6, m7].getD j 0) n k) := Lib.hid ⟨hk, hs.all, fun _ => he⟩
        generalize l.getD k 0 = y at c1 hne
        generalize [m0, m1, m2, m3, m4, m5, m6, m7].getD k 0 = z at c2 hne
        clear he hs
        go_wp2_with (fail)
        go_quiet (fail)
        go_wp2_with (fail)
        go_ret
        exact ⟨k, rfl, hfin.out, below_drewN (below_drewN bw3.out _) _⟩
    · obtain rfl : k = n := by omega
      have hfin : Hid (IsFirst (fun j => l.getD j 0 = [m0, m1, m2, m3, m4, m5, m6, m7].getD j 0) k k) := Lib.hid ⟨Nat.le_refl _, hs.all, fun h => absurd h (Nat.lt_irrefl _)⟩
      clear hs
      go_wp2_with (fail)
      go_ret
      exact ⟨k, rfl, hfin.out, below_drewN bw3.out _⟩
end Go.Proofs.YtppnicdhahgigaaDoor
