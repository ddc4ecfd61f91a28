/- What May, Encode and Decode hand back. -/
import Derived.Test.YtppnicdhahgigaaDoorInoMath2
import Derived.Test.YtppnicdhahgigaaDoorSum6
namespace Go.Proofs.YtppnicdhahgigaaDoor
open Go.RowKit WordMath SumMath
/-- May a record be? -/
def mayB (x : Ino) (P I B : Int) : Bool := @decide (GOK P I B) (by unfold GOK; infer_instance) && decide (misV x I B = 7)
theorem mayB_iff {x : Ino} {P I B : Int} : mayB x P I B = true ↔ GOK P I B ∧ misV x I B = 7 := by
  unfold mayB
  simp only [Bool.and_eq_true, decide_eq_true_eq]
set_option maxRecDepth 100000 in
theorem imay_calls (x : Ino) (P I B : Int) (w : World) : Calls Tryd.prog 9 #[x.v, gv P I B] w fun e w' => e = .returned (.bool (mayB x P I B)) ∧ Below w.heap.size w w' := by
  by_cases hg : GOK P I B
  · obtain ⟨b, hb⟩ : ∃ b, b = mayB x P I B := ⟨_, rfl⟩
    have hbd : ((misV x I B : Int) == 7) = b := by
      rw [hb, Bool.eq_iff_iff, mayB_iff, beq_iff_eq]
      exact ⟨fun h => ⟨hg, h⟩, fun h => h.2⟩
    have hM := fun W => mis_calls P I B x W
    generalize misV x I B = n at *
    rw [← hb]
    have HG := Lib.hid hg
    clear hb hg
    go_enter Tryd.func9, Tryd.ntmps9
    go_wp2_with (fail)
    refine (check_ok P I B _ HG.out).mono ?_
    rintro e w1 ⟨rfl, hb1⟩
    have bw1 := Below.trans (((Below.refl w.heap.size w).alloc (Nat.le_refl _) (.cells x.c 25)).alloc (by simp) (.cells #[.int .i64 P, .int .i64 I, .int .i64 B] 27)) (hb1.mono (by simp <;> omega))
    have ix1 : Ib w1 w.heap.size x := ((Ib.new w x).below (k := w.heap.size + 1) ((Below.refl _ _).alloc (by simp) (.cells #[.int .i64 P, .int .i64 I, .int .i64 B] 27)) (by omega)).below hb1 (by simp <;> omega)
    have hg1 := alloc_later hb1
    rw [World.size_alloc] at hg1
    obtain ⟨g0, g1, g2⟩ := three_cells hg1
    obtain ⟨x0, x1, x2, x3, x4, x5, x6, x7, x8, x9, x10, x11, x12⟩ := ix1.cells
    have hs1 := bw1.size
    clear hb1 hg1
    go_wp2_with (fail)
    refine (hM _).mono ?_
    rintro e w2 ⟨rfl, hb2⟩
    clear x0 x1 x2 x3 x4 x5 x6 x7 x8 x9 x10 x11 x12 g0 g1 g2 hM
    go_wp2_with (fail)
    go_ret
    exact ⟨rfl, bw1.trans (hb2.mono hs1)⟩
  · have hb : mayB x P I B = false := by
      rw [Bool.eq_false_iff]
      exact fun h => hg (mayB_iff.1 h).1
    rw [hb]
    have HG := Lib.hid hg
    clear hb hg
    go_enter Tryd.func9, Tryd.ntmps9
    go_wp2_with (fail)
    refine (check_bad P I B _ HG.out).mono ?_
    rintro e w1 ⟨rfl, hb1⟩
    have bw1 := Below.trans (((Below.refl w.heap.size w).alloc (Nat.le_refl _) (.cells x.c 25)).alloc (by simp) (.cells #[.int .i64 P, .int .i64 I, .int .i64 B] 27)) (hb1.mono (by simp <;> omega))
    clear hb1
    go_wp2_with (fail)
    go_ret
    exact ⟨rfl, bw1⟩
/-- The words of a record, without the seal's. -/
def wL (x : Ino) : List Nat := [headN x, u64 x.S, u64 x.A, bodyN x, u64 x.P, u64 x.T, u64 x.C]
theorem wL_length (x : Ino) : (wL x).length = 7 := rfl
theorem wrL_eq (x : Ino) : wrL x = wL x ++ [0] := rfl
theorem headN_lt {x : Ino} (h : Small x) : headN x < 18446744073709551616 := by
  have := h.K; have := h.L; have := h.G
  unfold headN; omega
theorem bodyN_lt {x : Ino} (h : Small x) : bodyN x < 18446744073709551616 := by
  have := h.H0; have := h.H1; have := h.H2; have := h.H3
  unfold bodyN heads4
  split
  · omega
  · exact u64_lt _
theorem wd_of (l : List Nat) (h : ∀ v ∈ l, v < 18446744073709551616) : Wd l := fun k => by
  rw [List.getD_eq_getElem?_getD]
  cases e : l[k]? with
  | none => simp
  | some v => simpa using h v (List.mem_of_getElem? e)
theorem wd_wL {x : Ino} (h : Small x) : Wd (wL x) := wd_of _ fun v hv => by
  simp only [wL, List.mem_cons, List.not_mem_nil, or_false] at hv
  rcases hv with rfl | rfl | rfl | rfl | rfl | rfl | rfl
  · exact headN_lt h
  · exact u64_lt _
  · exact u64_lt _
  · exact bodyN_lt h
  · exact u64_lt _
  · exact u64_lt _
  · exact u64_lt _
/-- It hands back a row of a block of its own, and no error. -/
def GivesOwnOk (l : List Nat) (w : World) (e : Ending) (w' : World) : Prop := ∃ A c, e = .returned (.tuple #[.slice A l.length c, .int .i64 0]) ∧ Row w' A l ∧ Fresh w.heap.size A ∧ Below w.heap.size w w' ∧ l.length ≤ c ∧ ∃ g, A = some ⟨g, 0, none⟩ ∧ Blk 44 w' g l
set_option maxRecDepth 100000 in
set_option maxHeartbeats 1000000 in
theorem encode_own (x : Ino) (P I B : Int) (w : World) (hx : Small x) (hb : mayB x P I B = true) (hT : TabAt w) :
    Calls Tryd.prog 7 #[x.v, gv P I B] w (GivesOwnOk (sealed (wL x)) w) := by
  have hM := fun W => imay_calls x P I B W
  rw [hb] at hM
  have hR := fun W => written_calls x W hx
  rw [wrL_eq] at hR
  have hwd := wd_wL hx
  have hlen : (wL x).length = 7 := rfl
  have em : wL x = [headN x, u64 x.S, u64 x.A, bodyN x, u64 x.P, u64 x.T, u64 x.C] := rfl
  have HT := Lib.hid hT
  generalize wL x = m at *
  generalize headN x = m0 at *
  generalize u64 x.S = m1 at *
  generalize u64 x.A = m2 at *
  generalize bodyN x = m3 at *
  generalize u64 x.P = m4 at *
  generalize u64 x.T = m5 at *
  generalize u64 x.C = m6 at *
  subst em
  have hR' : ∀ W, Calls Tryd.prog 16 #[x.v] W fun e w' => e = .returned (.agg #[.int .u64 (m0 : Nat), .int .u64 (m1 : Nat), .int .u64 (m2 : Nat), .int .u64 (m3 : Nat), .int .u64 (m4 : Nat), .int .u64 (m5 : Nat), .int .u64 (m6 : Nat), .int .u64 0]) ∧ Below W.heap.size W w' := hR
  have hsl : (sealed [m0, m1, m2, m3, m4, m5, m6]).length = 8 := rfl
  have HWD := Lib.hid hwd
  clear hb hT hx hR hwd hlen
  go_enter Tryd.func7, Tryd.ntmps7
  go_wp2_with (fail)
  refine (hM _).mono ?_
  rintro e w1 ⟨rfl, hb1⟩
  have bw1 := Below.trans (((Below.refl w.heap.size w).alloc (Nat.le_refl _) (.cells x.c 25)).alloc (by simp) (.cells #[.int .i64 P, .int .i64 I, .int .i64 B] 27)) (hb1.mono (by simp <;> omega))
  have ix1 : Ib w1 w.heap.size x := ((Ib.new w x).below (k := w.heap.size + 1) ((Below.refl _ _).alloc (by simp) (.cells #[.int .i64 P, .int .i64 I, .int .i64 B] 27)) (by omega)).below hb1 (by simp <;> omega)
  obtain ⟨x0, x1, x2, x3, x4, x5, x6, x7, x8, x9, x10, x11, x12⟩ := ix1.cells
  have hs1 := bw1.size
  clear hb1 hM
  go_wp2_with (fail)
  refine (hR' _).mono ?_
  rintro e w2 ⟨rfl, hb2⟩
  clear x0 x1 x2 x3 x4 x5 x6 x7 x8 x9 x10 x11 x12 hR' ix1
  have bw2 := bw1.trans (hb2.mono hs1)
  clear hb2 bw1 hs1
  have hr3 : Row (w2.alloc (.cells #[.int .u64 (m0 : Nat), .int .u64 (m1 : Nat), .int .u64 (m2 : Nat), .int .u64 (m3 : Nat), .int .u64 (m4 : Nat), .int .u64 (m5 : Nat), .int .u64 (m6 : Nat), .int .u64 0] 48)) (some ⟨w2.heap.size, 0, none⟩) [m0, m1, m2, m3, m4, m5, m6] := by
    have h : Blk 48 (w2.alloc (.cells #[.int .u64 (m0 : Nat), .int .u64 (m1 : Nat), .int .u64 (m2 : Nat), .int .u64 (m3 : Nat), .int .u64 (m4 : Nat), .int .u64 (m5 : Nat), .int .u64 (m6 : Nat), .int .u64 0] 48)) w2.heap.size ([m0, m1, m2, m3, m4, m5, m6] ++ [0]) := heap_alloc_new w2 _
    exact h.row.init
  have bw3 := bw2.alloc bw2.size (.cells #[.int .u64 (m0 : Nat), .int .u64 (m1 : Nat), .int .u64 (m2 : Nat), .int .u64 (m3 : Nat), .int .u64 (m4 : Nat), .int .u64 (m5 : Nat), .int .u64 (m6 : Nat), .int .u64 0] 48)
  have hS := Seal_calls2 (some ⟨w2.heap.size, 0, none⟩) [m0, m1, m2, m3, m4, m5, m6] 8 _ hr3 HWD.out (by simp) (HT.out.below bw3)
  have HS := Lib.hid hS
  have HB3 := Lib.hid bw3
  clear hr3 hS bw2 bw3
  go_wp2_with (fail)
  refine HS.out.mono ?_
  rintro e w4 ⟨A4, c4, rfl, hr4, hf4, hb4, hc4, ho4⟩
  have bw4 := HB3.out.trans (hb4.mono HB3.out.size)
  have hf4 := hf4.mono HB3.out.size
  clear HS HB3 hb4
  go_wp2_with (fail)
  go_ret2
  exact ⟨A4, c4, rfl, hr4, hf4, bw4, hc4, ho4⟩
theorem encode_bad (x : Ino) (P I B : Int) (w : World) (hb : mayB x P I B = false) :
    Calls Tryd.prog 7 #[x.v, gv P I B] w fun e w' => e = .returned (.tuple #[.slice none 0 0, .int .i64 2]) ∧ Below w.heap.size w w' := by
  have hM := fun W => imay_calls x P I B W
  rw [hb] at hM
  clear hb
  go_enter Tryd.func7, Tryd.ntmps7
  go_wp2_with (fail)
  refine (hM _).mono ?_
  rintro e w1 ⟨rfl, hb1⟩
  have bw1 := Below.trans (((Below.refl w.heap.size w).alloc (Nat.le_refl _) (.cells x.c 25)).alloc (by simp) (.cells #[.int .i64 P, .int .i64 I, .int .i64 B] 27)) (hb1.mono (by simp <;> omega))
  clear hb1 hM
  go_wp2_with (fail)
  go_ret2
  exact ⟨rfl, bw1⟩
/-- An error, as a value: of a place and a number; none. -/
def errV (o : Option (Nat × Int)) : Value := match o with
  | none => .nilIface
  | some (k, n) => .iface 81 (.agg #[.int .i64 (k : Nat), .int .i64 n])
theorem refuse_calls (k : Nat) (n : Int) (w : World) : Calls Tryd.prog 25 #[.int .i64 k, .int .i64 n] w fun e w' => e = .returned (errV (some (k, n))) ∧ w = w' := by
  go_enter Tryd.func25, Tryd.ntmps25
  go_wp2
  go_ret
  exact ⟨rfl, rfl⟩
end Go.Proofs.YtppnicdhahgigaaDoor
