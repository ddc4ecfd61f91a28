/- Records of inodes as values and as blocks; numbers within bounds; heads within bounds. -/
import Derived.Test.YtppnicdhahgigaaDoorGeoCk
import Derived.Test.YtppnicdhahgigaaDoorOwn
import Derived.RegionTactic
import Derived.BigRegion
namespace Go.Proofs.YtppnicdhahgigaaDoor
open Go.RowKit
/-- A record's numbers. -/
structure Ino where
  K : Int
  L : Int
  G : Int
  S : Int
  A : Int
  M : Int
  H0 : Int
  H1 : Int
  H2 : Int
  H3 : Int
  P : Int
  T : Int
  C : Int
/-- As cells. -/
abbrev Ino.c (x : Ino) : Array Value := #[.int .u8 x.K, .int .i64 x.L, .int .u32 x.G, .int .i64 x.S, .int .i64 x.A, .int .i64 x.M, .int .i64 x.H0, .int .i64 x.H1, .int .i64 x.H2, .int .i64 x.H3, .int .i64 x.P, .int .i64 x.T, .int .i64 x.C]
/-- As a value. -/
abbrev Ino.v (x : Ino) : Value := .agg x.c
/-- Is a number within bounds? -/
def wi (n lo hi : Int) : Bool := decide (lo ≤ n ∧ n ≤ hi)
theorem wi_yes {n lo hi : Int} (h1 : lo ≤ n) (h2 : n ≤ hi) : wi n lo hi = true := by simp [wi, h1, h2]
theorem wi_no {n lo hi : Int} (h : n < lo ∨ hi < n) : wi n lo hi = false := by simp [wi]; omega
theorem wint_calls (n lo hi : Int) (w : World) : Calls Tryd.prog 36 #[.int .i64 n, .int .i64 lo, .int .i64 hi] w fun e w' => e = .returned (.bool (wi n lo hi)) ∧ w = w' := by
  by_cases h1 : lo ≤ n
  · by_cases h2 : n ≤ hi
    · rw [wi_yes h1 h2]
      go_enter Tryd.func36, Tryd.ntmps36
      go_wp2
      go_ret
      exact ⟨rfl, rfl⟩
    · rw [wi_no (by omega)]
      have h3 : decide (n ≤ hi) = false := by rw [decide_eq_false_iff_not]; omega
      clear h2
      go_enter Tryd.func36, Tryd.ntmps36
      go_wp2
      go_ret
      exact ⟨by simp, rfl⟩
  · rw [wi_no (by omega)]
    have h3 : decide (lo ≤ n) = false := by rw [decide_eq_false_iff_not]; omega
    clear h1
    go_enter Tryd.func36, Tryd.ntmps36
    go_wp2
    go_ret
    exact ⟨by simp, rfl⟩
theorem wi64_calls (n lo hi : Int) (w : World) : Calls Tryd.prog 37 #[.int .i64 n, .int .i64 lo, .int .i64 hi] w fun e w' => e = .returned (.bool (wi n lo hi)) ∧ w = w' := by
  by_cases h1 : lo ≤ n
  · by_cases h2 : n ≤ hi
    · rw [wi_yes h1 h2]
      go_enter Tryd.func37, Tryd.ntmps37
      go_wp2
      go_ret
      exact ⟨rfl, rfl⟩
    · rw [wi_no (by omega)]
      have h3 : decide (n ≤ hi) = false := by rw [decide_eq_false_iff_not]; omega
      clear h2
      go_enter Tryd.func37, Tryd.ntmps37
      go_wp2
      go_ret
      exact ⟨by simp, rfl⟩
  · rw [wi_no (by omega)]
    have h3 : decide (lo ≤ n) = false := by rw [decide_eq_false_iff_not]; omega
    clear h1
    go_enter Tryd.func37, Tryd.ntmps37
    go_wp2
    go_ret
    exact ⟨by simp, rfl⟩
/-- A block of a record. -/
def Ib (w : World) (b : Nat) (x : Ino) : Prop := w.heap[b]? = some (.cells x.c 25 (0, 0))
section
variable {w w' : World} {b : Nat} {x : Ino}
theorem Ib.new (w : World) (x : Ino) : Ib (w.alloc (.cells x.c 25)) w.heap.size x := heap_alloc_new w _
theorem Ib.lt (h : Ib w b x) : b < w.heap.size := lt_of_cells h
theorem Ib.below {k : Nat} (h : Ib w b x) (hb : Below k w w') (hk : b < k) : Ib w' b x := (hb.block b hk).trans h
theorem Ib.cell (h : Ib w b x) (k : Nat) : w.cell? ⟨b, k, none⟩ = x.c[k]? := by
  unfold Ib at h
  simp [World.cell?, h]
theorem Ib.frozen (h : Ib w b x) (k : Nat) : w.frozen? ⟨b, k, none⟩ = false := by
  unfold Ib at h
  simp [World.frozen?, h]
theorem Ib.drewN (h : Ib w b x) (n : Nat) : Ib (w.drewN n) b x := h
theorem Ib.same (h : Ib w b x) (k : Nat) (v : Value) (hv : x.c[k]? = some v) : w.setCell ⟨b, k, none⟩ v = w := by
  have e : (w.setCell ⟨b, k, none⟩ v).heap = w.heap := by
    apply Array.ext
    · simp
    · intro i h1 h2
      simp only [World.setCell, Array.getElem_modify]
      by_cases hi : b = i
      · subst hi
        have hh : w.heap[b] = .cells x.c 25 (0, 0) := by
          unfold Ib at h
          rw [Array.getElem?_eq_getElem h2] at h
          exact Option.some.inj h
        have hs : x.c.setIfInBounds k v = x.c := by
          apply Array.ext
          · simp
          · intro j j1 j2
            by_cases hj : k = j
            · subst hj
              rw [Array.getElem?_eq_getElem j2] at hv
              rw [Array.getElem_setIfInBounds j2, if_pos rfl]
              exact (Option.some.inj hv).symm
            · rw [Array.getElem_setIfInBounds, if_neg hj]
        simp [hh, hs]
      · rw [if_neg hi]
  show ({ w with heap := (w.setCell ⟨b, k, none⟩ v).heap } : World) = w
  rw [e]
theorem Ib.cells (h : Ib w b x) : w.cell? ⟨b, 0, none⟩ = some (.int .u8 x.K) ∧ w.cell? ⟨b, 1, none⟩ = some (.int .i64 x.L) ∧ w.cell? ⟨b, 2, none⟩ = some (.int .u32 x.G) ∧ w.cell? ⟨b, 3, none⟩ = some (.int .i64 x.S) ∧ w.cell? ⟨b, 4, none⟩ = some (.int .i64 x.A) ∧ w.cell? ⟨b, 5, none⟩ = some (.int .i64 x.M) ∧ w.cell? ⟨b, 6, none⟩ = some (.int .i64 x.H0) ∧ w.cell? ⟨b, 7, none⟩ = some (.int .i64 x.H1) ∧ w.cell? ⟨b, 8, none⟩ = some (.int .i64 x.H2) ∧ w.cell? ⟨b, 9, none⟩ = some (.int .i64 x.H3) ∧ w.cell? ⟨b, 10, none⟩ = some (.int .i64 x.P) ∧ w.cell? ⟨b, 11, none⟩ = some (.int .i64 x.T) ∧ w.cell? ⟨b, 12, none⟩ = some (.int .i64 x.C) :=
  ⟨h.cell 0, h.cell 1, h.cell 2, h.cell 3, h.cell 4, h.cell 5, h.cell 6, h.cell 7, h.cell 8, h.cell 9, h.cell 10, h.cell 11, h.cell 12⟩
end
theorem quiet_left {P : Program} {f : FuncId} {args : Array Value} {w : World} {n : Nat} {v : Value}
    (h : Calls P f args (w.drewN n) fun e w' => e = .returned v ∧ w.drewN n = w') : Calls P f args (w.drewN n) fun e w'' => e = .returned v ∧ ∃ m, w'' = w.drewN m :=
  h.mono fun _ _ ⟨he, hm⟩ => ⟨he, n, hm.symm⟩
/-- Are all heads within bounds? -/
def headsB (x l m : Ino) : Bool := wi x.H0 l.H0 m.H0 && (wi x.H1 l.H1 m.H1 && (wi x.H2 l.H2 m.H2 && wi x.H3 l.H3 m.H3))
theorem at4_0 (a b c d : Value) (w : World) : (Instr.index 23 (.agg #[a, b, c, d]) (.int .i64 0)).run Tryd.prog w = .ok a w := by kernel_rfl
theorem at4_1 (a b c d : Value) (w : World) : (Instr.index 23 (.agg #[a, b, c, d]) (.int .i64 1)).run Tryd.prog w = .ok b w := by kernel_rfl
theorem at4_2 (a b c d : Value) (w : World) : (Instr.index 23 (.agg #[a, b, c, d]) (.int .i64 2)).run Tryd.prog w = .ok c w := by kernel_rfl
theorem at4_3 (a b c d : Value) (w : World) : (Instr.index 23 (.agg #[a, b, c, d]) (.int .i64 3)).run Tryd.prog w = .ok d w := by kernel_rfl
set_option maxRecDepth 100000 in
set_option maxHeartbeats 1000000 in
theorem heads_calls (x l m : Ino) (w : World) : Calls Tryd.prog 38 #[x.v, l.v, m.v] w fun e w' => e = .returned (.bool (headsB x l m)) ∧ Below w.heap.size w w' := by
  have hb : Below w.heap.size w (((w.alloc (.cells x.c 25)).alloc (.cells l.c 25)).alloc (.cells m.c 25)) := (((Below.refl _ _).alloc (Nat.le_refl _) _).alloc (by simp) _).alloc (by simp <;> omega) _
  obtain ⟨W, hW⟩ : ∃ W, W = ((w.alloc (.cells x.c 25)).alloc (.cells l.c 25)).alloc (.cells m.c 25) := ⟨_, rfl⟩
  have i1 : Ib W (w.heap.size + 1) l := by
    have := (Ib.new (w.alloc (.cells x.c 25)) l).below (w' := W) (k := (w.alloc (.cells x.c 25)).heap.size + 1) (by rw [hW]; exact (Below.refl _ _).alloc (by simp) _) (by omega)
    simpa using this
  have i2 : Ib W (w.heap.size + 1 + 1) m := by
    have := Ib.new ((w.alloc (.cells x.c 25)).alloc (.cells l.c 25)) m
    rw [← hW] at this
    simpa using this
  obtain ⟨-, -, -, -, -, -, l0, l1, l2, l3, -⟩ := i1.cells
  obtain ⟨-, -, -, -, -, -, m0, m1, m2, m3, -⟩ := i2.cells
  rw [← hW] at hb
  go_enter Tryd.func38, Tryd.ntmps38
  go_wp2
  rw [← hW]
  clear hW
  have a0 := at4_0
  have a1 := at4_1
  have a2 := at4_2
  have a3 := at4_3
  refine wp_loop_rounds 5 ?_
  rw [rounds_succ]
  cases c0 : wi x.H0 l.H0 m.H0
  case false =>
    go_wp2_with (go_quiet ((go_at_call 36; exact quiet_left (wint_calls _ _ _ _))))
    go_ret
    exact ⟨by simp [headsB, c0], below_drewN hb _⟩
  go_wp2_with (go_quiet ((go_at_call 36; exact quiet_left (wint_calls _ _ _ _))))
  clear l0 l1 l2 l3 m0 m1 m2 m3
  replace i1 := i1.drewN nq
  replace i2 := i2.drewN nq
  replace hb := below_drewN hb nq
  generalize W.drewN nq = W0 at *
  clear W
  rename World => W
  obtain ⟨-, -, -, -, -, -, l0, l1, l2, l3, -⟩ := i1.cells
  obtain ⟨-, -, -, -, -, -, m0, m1, m2, m3, -⟩ := i2.cells
  rw [rounds_succ]
  cases c1 : wi x.H1 l.H1 m.H1
  case false =>
    go_wp2_with (go_quiet ((go_at_call 36; exact quiet_left (wint_calls _ _ _ _))))
    go_ret
    exact ⟨by simp [headsB, c0, c1], below_drewN hb _⟩
  go_wp2_with (go_quiet ((go_at_call 36; exact quiet_left (wint_calls _ _ _ _))))
  clear l0 l1 l2 l3 m0 m1 m2 m3
  replace i1 := i1.drewN nq
  replace i2 := i2.drewN nq
  replace hb := below_drewN hb nq
  generalize W.drewN nq = W1 at *
  clear W
  rename World => W
  obtain ⟨-, -, -, -, -, -, l0, l1, l2, l3, -⟩ := i1.cells
  obtain ⟨-, -, -, -, -, -, m0, m1, m2, m3, -⟩ := i2.cells
  rw [rounds_succ]
  cases c2 : wi x.H2 l.H2 m.H2
  case false =>
    go_wp2_with (go_quiet ((go_at_call 36; exact quiet_left (wint_calls _ _ _ _))))
    go_ret
    exact ⟨by simp [headsB, c0, c1, c2], below_drewN hb _⟩
  go_wp2_with (go_quiet ((go_at_call 36; exact quiet_left (wint_calls _ _ _ _))))
  clear l0 l1 l2 l3 m0 m1 m2 m3
  replace i1 := i1.drewN nq
  replace i2 := i2.drewN nq
  replace hb := below_drewN hb nq
  generalize W.drewN nq = W2 at *
  clear W
  rename World => W
  obtain ⟨-, -, -, -, -, -, l0, l1, l2, l3, -⟩ := i1.cells
  obtain ⟨-, -, -, -, -, -, m0, m1, m2, m3, -⟩ := i2.cells
  rw [rounds_succ]
  cases c3 : wi x.H3 l.H3 m.H3
  case false =>
    go_wp2_with (go_quiet ((go_at_call 36; exact quiet_left (wint_calls _ _ _ _))))
    go_ret
    exact ⟨by simp [headsB, c0, c1, c2, c3], below_drewN hb _⟩
  go_wp2_with (go_quiet ((go_at_call 36; exact quiet_left (wint_calls _ _ _ _))))
  rw [rounds_succ]
  go_wp2_with (fail)
  go_ret
  exact ⟨by simp [headsB, c0, c1, c2, c3], below_drewN hb _⟩
end Go.Proofs.YtppnicdhahgigaaDoor
