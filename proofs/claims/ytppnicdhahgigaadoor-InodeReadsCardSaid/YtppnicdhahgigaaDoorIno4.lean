/- A field of a word, got and put; the words of a record. -/
import Derived.Test.YtppnicdhahgigaaDoorIno3
import Derived.Test.YtppnicdhahgigaaDoorWordGet
import Derived.Test.YtppnicdhahgigaaDoorMem
import Derived.Great.Walk
import Derived.Deep.DeepCutAuto
import Derived.Laws.Rows
import Derived.Laws.CopyOwn
namespace Go.Proofs.YtppnicdhahgigaaDoor
open Go.RowKit WordMath
theorem iget_calls (v a n : Int) (w : World) (v0 : 0 ≤ v) (v1 : v < 18446744073709551616) (ha : a ≤ 9223372036854775807) :
    Calls Tryd.prog 43 #[.int .u64 v, .int .i64 a, .int .i64 n] w fun e w' => e = .returned (.int .u64 (getV v a n)) ∧ w = w' := by
  go_enter Tryd.func43, Tryd.ntmps43
  go_wp2_with (fail)
  refine (get_calls v a n _ v0 v1 ha).mono ?_
  rintro e w' ⟨rfl, rfl⟩
  go_wp2_with (fail)
  go_ret
  exact ⟨rfl, rfl⟩
/-- A cell of a block of one's own turned by put. -/
theorem iput_ok (e : TypeId) (g k : Nat) (l : List Nat) (v a n x : Nat) (ai ni : Int) (w : World) (hai : ai = (a : Nat)) (hni : ni = (n : Nat)) (hB : Blk e w g l) (hk : k < l.length) (hv : l.getD k 0 = v) (v1 : v < 18446744073709551616) (hn : 1 ≤ n) (ha : a + n ≤ 64) (hx : x < 2 ^ n) :
    Calls Tryd.prog 29 #[.pointer (some ⟨g, k, none⟩), .int .i64 ai, .int .i64 ni, .int .u64 x] w fun e' w' => e' = .returned (.tuple #[]) ∧ Blk e w' g (l.set k (put v a n x)) ∧ Below g w w' := by
  subst hai hni
  have hp : isPut a n x := ⟨⟨by omega, by omega, by omega⟩, by simpa using hx⟩
  have hc := hB.cell k hk
  rw [hv] at hc
  have hf := hB.frozen k
  have key := put_calls (v : Int) a n x w (by omega) (by omega) (by omega) (by omega)
  rw [putV_yes hp, putE_yes hp] at key
  have hlt := hB.lt
  go_enter Tryd.func29, Tryd.ntmps29
  go_wp2_with (fail)
  refine key.mono ?_
  rintro e w' ⟨rfl, m, rfl⟩
  go_wp2_with (fail)
  exact bodyPost_end (results_none rfl _ _ _) rfl ⟨rfl, by simpa using (hB.drewN m).set k (put v a n x), (below_drewN (Below.refl g w) m).setCell (Nat.le_refl _) _⟩
/-- A number as a word. -/
def u64 (n : Int) : Nat := (n % 18446744073709551616).toNat
theorem u64_lt (n : Int) : u64 n < 18446744073709551616 := by unfold u64; omega
theorem u64_wrap (n : Int) : IntKind.u64.wrap n = (u64 n : Nat) := by
  unfold u64
  simp [IntKind.wrap, IntKind.bits, IntKind.signed]
  omega
theorem u64_nat {n : Int} (h0 : 0 ≤ n) (h1 : n < 18446744073709551616) : u64 n = n.toNat := by unfold u64; omega
/-- Its fields have room for its numbers. -/
structure Small (x : Ino) : Prop where
  K : 0 ≤ x.K ∧ x.K < 256
  L : 0 ≤ x.L ∧ x.L < 256
  G : 0 ≤ x.G ∧ x.G < 4294967296
  H0 : 0 ≤ x.H0 ∧ x.H0 < 256
  H1 : 0 ≤ x.H1 ∧ x.H1 < 256
  H2 : 0 ≤ x.H2 ∧ x.H2 < 256
  H3 : 0 ≤ x.H3 ∧ x.H3 < 256
  M : x.K = 2 → x.M = 0
/-- The words of a record, without the seal. -/
def headN (x : Ino) : Nat := x.K.toNat + 256 * x.L.toNat + 4294967296 * x.G.toNat
def heads4 (x : Ino) : Nat := x.H0.toNat + 256 * x.H1.toNat + 65536 * x.H2.toNat + 16777216 * x.H3.toNat
def bodyN (x : Ino) : Nat := if x.K = 2 then heads4 x else u64 x.M
def wrL (x : Ino) : List Nat := [headN x, u64 x.S, u64 x.A, bodyN x, u64 x.P, u64 x.T, u64 x.C, 0]
theorem put_head (a b c : Nat) (h1 : a < 256) (h2 : b < 256) : put (put (put 0 0 8 a) 8 8 b) 32 32 c = a + 256 * b + 4294967296 * c := by
  unfold put; simp; omega
theorem put_four (a b c d : Nat) (h0 : a < 256) (h1 : b < 256) (h2 : c < 256) : put (put (put (put 0 0 8 a) 8 8 b) 16 8 c) 24 8 d = a + 256 * b + 65536 * c + 16777216 * d := by
  unfold put; simp; omega
theorem put_two (a b c : Nat) (h0 : a < 256) (h1 : b < 256) : put (put (put 0 0 8 a) 8 8 b) 16 8 c = a + 256 * b + 65536 * c := by
  unfold put; simp; omega
theorem put_le0 (a : Nat) : put 0 0 8 a = a := by unfold put; simp
theorem put_le8 (a b : Nat) (h : a < 256) : put a 8 8 b = a + 256 * b := by unfold put; simp; omega
/-- Eight words stored over eight. -/
theorem set8_blk {e : TypeId} {W : World} {g : Nat} {z0 z1 z2 z3 z4 z5 z6 z7 : Nat} (h : Blk e W g [z0, z1, z2, z3, z4, z5, z6, z7]) (a0 a1 a2 a3 a4 a5 a6 a7 : Nat) :
    Blk e (((((((((W.setCell ⟨g, 0, none⟩ (.int .u64 (a0 : Nat))).setCell ⟨g, 1, none⟩ (.int .u64 (a1 : Nat))).setCell ⟨g, 2, none⟩ (.int .u64 (a2 : Nat))).setCell ⟨g, 3, none⟩ (.int .u64 (a3 : Nat))).setCell ⟨g, 4, none⟩ (.int .u64 (a4 : Nat))).setCell ⟨g, 5, none⟩ (.int .u64 (a5 : Nat))).setCell ⟨g, 6, none⟩ (.int .u64 (a6 : Nat))).setCell ⟨g, 7, none⟩ (.int .u64 (a7 : Nat)))) g [a0, a1, a2, a3, a4, a5, a6, a7] :=
  (((((((h.set 0 a0).set 1 a1).set 2 a2).set 3 a3).set 4 a4).set 5 a5).set 6 a6).set 7 a7
theorem set8_below {B : Nat} {w W : World} {g : Nat} (h : Below B w W) (hg : B ≤ g) (a0 a1 a2 a3 a4 a5 a6 a7 : Nat) :
    Below B w (((((((((W.setCell ⟨g, 0, none⟩ (.int .u64 (a0 : Nat))).setCell ⟨g, 1, none⟩ (.int .u64 (a1 : Nat))).setCell ⟨g, 2, none⟩ (.int .u64 (a2 : Nat))).setCell ⟨g, 3, none⟩ (.int .u64 (a3 : Nat))).setCell ⟨g, 4, none⟩ (.int .u64 (a4 : Nat))).setCell ⟨g, 5, none⟩ (.int .u64 (a5 : Nat))).setCell ⟨g, 6, none⟩ (.int .u64 (a6 : Nat))).setCell ⟨g, 7, none⟩ (.int .u64 (a7 : Nat)))) :=
  (((((((h.setCell hg _).setCell hg _).setCell hg _).setCell hg _).setCell hg _).setCell hg _).setCell hg _).setCell hg _
theorem Blk.cells8 {e : TypeId} {W : World} {g : Nat} {z0 z1 z2 z3 z4 z5 z6 z7 : Nat} (h : Blk e W g [z0, z1, z2, z3, z4, z5, z6, z7]) :
    W.cell? ⟨g, 0, none⟩ = some (.int .u64 (z0 : Nat)) ∧ W.cell? ⟨g, 1, none⟩ = some (.int .u64 (z1 : Nat)) ∧ W.cell? ⟨g, 2, none⟩ = some (.int .u64 (z2 : Nat)) ∧ W.cell? ⟨g, 3, none⟩ = some (.int .u64 (z3 : Nat)) ∧ W.cell? ⟨g, 4, none⟩ = some (.int .u64 (z4 : Nat)) ∧ W.cell? ⟨g, 5, none⟩ = some (.int .u64 (z5 : Nat)) ∧ W.cell? ⟨g, 6, none⟩ = some (.int .u64 (z6 : Nat)) ∧ W.cell? ⟨g, 7, none⟩ = some (.int .u64 (z7 : Nat)) :=
  ⟨h.cell 0 (by simp), h.cell 1 (by simp), h.cell 2 (by simp), h.cell 3 (by simp), h.cell 4 (by simp), h.cell 5 (by simp), h.cell 6 (by simp), h.cell 7 (by simp)⟩
set_option maxRecDepth 100000 in
set_option maxHeartbeats 2000000 in
theorem written_go (x : Ino) (w : World) (hx : Small x) (n0 n3 : Nat) (hn0 : n0 = headN x) (hn3 : n3 = bodyN x) : Calls Tryd.prog 16 #[x.v] w fun e w' => e = .returned (.agg (wv [n0, u64 x.S, u64 x.A, n3, u64 x.P, u64 x.T, u64 x.C, 0]).toArray) ∧ Below w.heap.size w w' := by
  have eK := u64_wrap x.K
  have eL := u64_wrap x.L
  have eG := u64_wrap x.G
  have eS := u64_wrap x.S
  have eA := u64_wrap x.A
  have eM := u64_wrap x.M
  have eP := u64_wrap x.P
  have eT := u64_wrap x.T
  have eC := u64_wrap x.C
  rw [u64_nat hx.K.1 (by have := hx.K.2; omega)] at eK
  rw [u64_nat hx.L.1 (by have := hx.L.2; omega)] at eL
  rw [u64_nat hx.G.1 (by have := hx.G.2; omega)] at eG
  have lK : x.K.toNat < 256 := by have := hx.K; omega
  have lL : x.L.toNat < 256 := by have := hx.L; omega
  have lG : x.G.toNat < 4294967296 := by have := hx.G; omega
  have lM := u64_lt x.M
  have eH0 := u64_wrap x.H0
  rw [u64_nat hx.H0.1 (by have := hx.H0.2; omega)] at eH0
  have lH0 : x.H0.toNat < 256 := by have := hx.H0; omega
  have eH1 := u64_wrap x.H1
  rw [u64_nat hx.H1.1 (by have := hx.H1.2; omega)] at eH1
  have lH1 : x.H1.toNat < 256 := by have := hx.H1; omega
  have eH2 := u64_wrap x.H2
  rw [u64_nat hx.H2.1 (by have := hx.H2.2; omega)] at eH2
  have lH2 : x.H2.toNat < 256 := by have := hx.H2; omega
  have eH3 := u64_wrap x.H3
  rw [u64_nat hx.H3.1 (by have := hx.H3.2; omega)] at eH3
  have lH3 : x.H3.toNat < 256 := by have := hx.H3; omega
  have zM := Lib.hid hx.M
  clear hx
  unfold headN at hn0
  generalize x.K.toNat = xk at *
  generalize x.L.toNat = xl at *
  generalize x.G.toNat = xg at *
  have HN3 : Hid (n3 = if x.K = 2 then x.H0.toNat + 256 * x.H1.toNat + 65536 * x.H2.toNat + 16777216 * x.H3.toNat else u64 x.M) := by rw [hn3]; exact Lib.hid rfl
  clear hn3
  generalize x.H0.toNat = h0 at *
  generalize x.H1.toNat = h1 at *
  generalize x.H2.toNat = h2 at *
  generalize x.H3.toNat = h3 at *
  generalize hs : u64 x.S = s at *
  generalize ha : u64 x.A = a at *
  generalize hm : u64 x.M = m at *
  generalize hp : u64 x.P = p at *
  generalize ht : u64 x.T = t at *
  generalize hc : u64 x.C = c at *
  have HM := Lib.hid hm
  clear hs ha hm hp ht hc
  have HN0 := Lib.hid hn0
  clear hn0
  have hb0 : Below w.heap.size w (((w.alloc (.cells x.c 25)).alloc (.cells #[.int .u64 0, .int .u64 0, .int .u64 0, .int .u64 0, .int .u64 0, .int .u64 0, .int .u64 0, .int .u64 0] 48)).alloc (.cells #[.int .u64 0, .int .u64 s, .int .u64 a, .int .u64 m, .int .u64 p, .int .u64 t, .int .u64 c, .int .u64 0] 48)) := (((Below.refl _ _).alloc (Nat.le_refl _) _).alloc (by simp) _).alloc (by simp <;> omega) _
  have ix0 : Ib (((w.alloc (.cells x.c 25)).alloc (.cells #[.int .u64 0, .int .u64 0, .int .u64 0, .int .u64 0, .int .u64 0, .int .u64 0, .int .u64 0, .int .u64 0] 48)).alloc (.cells #[.int .u64 0, .int .u64 s, .int .u64 a, .int .u64 m, .int .u64 p, .int .u64 t, .int .u64 c, .int .u64 0] 48)) w.heap.size x :=
    (Ib.new w x).below (k := w.heap.size + 1) (((Below.refl _ _).alloc (by simp) _).alloc (by simp) _) (by omega)
  have hz0 : Blk 48 (((w.alloc (.cells x.c 25)).alloc (.cells #[.int .u64 0, .int .u64 0, .int .u64 0, .int .u64 0, .int .u64 0, .int .u64 0, .int .u64 0, .int .u64 0] 48)).alloc (.cells #[.int .u64 0, .int .u64 s, .int .u64 a, .int .u64 m, .int .u64 p, .int .u64 t, .int .u64 c, .int .u64 0] 48)) (w.heap.size + 1) [0, 0, 0, 0, 0, 0, 0, 0] := by
    have := heap_alloc_new (w.alloc (.cells x.c 25)) (.cells #[.int .u64 0, .int .u64 0, .int .u64 0, .int .u64 0, .int .u64 0, .int .u64 0, .int .u64 0, .int .u64 0] 48)
    rw [World.size_alloc] at this
    exact Blk.below (B := w.heap.size + 1 + 1) this ((Below.refl _ _).alloc (by simp) _) (by omega)
  have hB0 : Blk 48 (((w.alloc (.cells x.c 25)).alloc (.cells #[.int .u64 0, .int .u64 0, .int .u64 0, .int .u64 0, .int .u64 0, .int .u64 0, .int .u64 0, .int .u64 0] 48)).alloc (.cells #[.int .u64 0, .int .u64 s, .int .u64 a, .int .u64 m, .int .u64 p, .int .u64 t, .int .u64 c, .int .u64 0] 48)) (w.heap.size + 1 + 1) [0, s, a, m, p, t, c, 0] := by
    have := heap_alloc_new ((w.alloc (.cells x.c 25)).alloc (.cells #[.int .u64 0, .int .u64 0, .int .u64 0, .int .u64 0, .int .u64 0, .int .u64 0, .int .u64 0, .int .u64 0] 48)) (.cells #[.int .u64 0, .int .u64 s, .int .u64 a, .int .u64 m, .int .u64 p, .int .u64 t, .int .u64 c, .int .u64 0] 48)
    rw [World.size_alloc, World.size_alloc] at this
    exact this
  have Yhb0 := Lib.hid hb0
  clear hb0
  have Yix0 := Lib.hid ix0
  clear ix0
  have Yhz0 := Lib.hid hz0
  clear hz0
  have YhB0 := Lib.hid hB0
  clear hB0
  go_enter Tryd.func16, Tryd.ntmps16
  go_wp2_with (fail)
  refine (iput_ok 48 (w.heap.size + 1 + 1) 0 [0, s, a, m, p, t, c, 0] 0 0 8 xk 0 8 _ rfl rfl YhB0.out (by simp) rfl (by omega) (by omega) (by omega) lK).mono ?_
  rintro e w1 ⟨rfl, hB1, hbb⟩
  have bw1 := Yhb0.out.trans (hbb.mono (by omega))
  have ix1 := Yix0.out.below hbb (by omega)
  have hz1 := Yhz0.out.below hbb (by omega)
  clear hbb Yhb0 Yix0 Yhz0 YhB0
  obtain ⟨x0, x1, x2, -⟩ := ix1.cells
  have hlt := hB1.lt
  go_wp2_with (fail)
  refine (iput_ok 48 (w.heap.size + 1 + 1) 0 _ (put 0 0 8 xk) 8 8 xl 8 8 _ rfl rfl hB1 (by simp) rfl (by rw [put_le0]; omega) (by omega) (by omega) lL).mono ?_
  rintro e w2 ⟨rfl, hB2, hbb⟩
  have bw2 := bw1.trans (hbb.mono (by omega))
  have ix2 := ix1.below hbb (by omega)
  have hz2 := hz1.below hbb (by omega)
  clear hbb bw1 hB1 ix1 hz1 x0 x1 x2 hlt
  obtain ⟨x0, x1, x2, -⟩ := ix2.cells
  have hlt := hB2.lt
  go_wp2_with (fail)
  refine (iput_ok 48 (w.heap.size + 1 + 1) 0 _ (put (put 0 0 8 xk) 8 8 xl) 32 32 xg 32 32 _ rfl rfl hB2 (by simp) rfl (by rw [put_le0, put_le8 _ _ lK]; omega) (by omega) (by omega) lG).mono ?_
  rintro e w3 ⟨rfl, hB3, hbb⟩
  have bw3 := bw2.trans (hbb.mono (by omega))
  have ix3 := ix2.below hbb (by omega)
  have hz3 := hz2.below hbb (by omega)
  clear hbb bw2 hB2 ix2 hz2 x0 x1 x2 hlt
  rw [put_head _ _ _ lK lL] at hB3
  have HE : xk + 256 * xl + 4294967296 * xg = n0 := HN0.out.symm
  rw [HE] at hB3
  replace hB3 : Blk 48 w3 (w.heap.size + 1 + 1) [n0, s, a, m, p, t, c, 0] := hB3
  clear HE HN0
  cases hK : (x.K == 2) with
  | false =>
    have hm3 : n3 = m := by
      have h2 : ¬ x.K = 2 := by simpa using hK
      rw [HN3.out, if_neg h2]
    subst hm3
    obtain ⟨x0, -⟩ := ix3.cells
    have hlt := hB3.lt
    go_upto_region 11 with (fail)
    refine wp_region_lit ?_
    refine wpList_load_row rfl 48 (.tmp 3) rfl (w.heap.size + 1 + 1) rfl 48 _ (0, 0) (.array 8 44) hB3 Tryd.underlying48 rfl (by kernel_rfl) ?_
    refine wpList_store_row rfl 48 (.tmp 2) (.tmp 56) rfl (w.heap.size + 1) _ rfl rfl 48 _ hz3 (by kernel_rfl) rfl (Array.all_eq_true_iff_forall_mem.2 fun v hv => wv_one _ v (by simpa using hv)) ?_
    refine wpList_nil ?_
    have q8 := setRow_heap w3 (w.heap.size + 1) _ (wv [n0, s, a, n3, p, t, c, 0]).toArray 48 (0, 0) hz3
    have q9 := below_setRow bw3 (show w.heap.size ≤ w.heap.size + 1 by omega) (wv [n0, s, a, n3, p, t, c, 0]).toArray
    have hw : w3.setRow (w.heap.size + 1) (wv [n0, s, a, n3, p, t, c, 0]).toArray = w3.setRow (w.heap.size + 1) (wv [n0, s, a, n3, p, t, c, 0]).toArray := rfl
    generalize w3.setRow (w.heap.size + 1) (wv [n0, s, a, n3, p, t, c, 0]).toArray = W8 at *
    clear hw
    have q8 := Lib.hid q8
    go_wp2_with (fail)
    exact bodyPost_ret (results_cell_row rfl _ _ (w.heap.size + 1) 48 _ (0, 0) (.array 8 44) rfl q8.out Tryd.underlying48 rfl (by kernel_rfl)) rfl ⟨rfl, q9⟩
  | true =>
    have hm0 : m = 0 := by
      have h2 : x.K = 2 := by simpa using hK
      rw [← HM.out, zM.out h2]; rfl
    subst hm0
    have HN4 : h0 + 256 * h1 + 65536 * h2 + 16777216 * h3 = n3 := by
      have h2 : x.K = 2 := by simpa using hK
      rw [HN3.out, if_pos h2]
    have HN4 := Lib.hid HN4
    obtain ⟨x0, -, -, -, -, -, x6, x7, x8, x9, -⟩ := ix3.cells
    have hlt := hB3.lt
    have a0 := at4_0
    have a1 := at4_1
    have a2 := at4_2
    have a3 := at4_3
    go_wp2_with (fail)
    clear x0 x6 x7 x8 x9
    refine wp_loop_rounds 5 ?_
    rw [rounds_succ]
    go_wp2_with (fail)
    refine (iput_ok 48 (w.heap.size + 1 + 1) 3 _ (0) 0 8 h0 0 8 _ rfl rfl hB3 (by simp) rfl (by omega) (by omega) (by omega) lH0).mono ?_
    rintro e w4 ⟨rfl, hB4, hbb⟩
    have bw4 := bw3.trans (hbb.mono (by omega))
    have hz4 := hz3.below hbb (by omega)
    clear hbb bw3 hB3 hz3 hlt
    have hlt := hB4.lt
    go_wp2_with (fail)
    rw [rounds_succ]
    go_wp2_with (fail)
    refine (iput_ok 48 (w.heap.size + 1 + 1) 3 _ (put 0 0 8 h0) 8 8 h1 8 8 _ rfl rfl hB4 (by simp) rfl (by rw [put_le0]; omega) (by omega) (by omega) lH1).mono ?_
    rintro e w5 ⟨rfl, hB5, hbb⟩
    have bw5 := bw4.trans (hbb.mono (by omega))
    have hz5 := hz4.below hbb (by omega)
    clear hbb bw4 hB4 hz4 hlt
    have hlt := hB5.lt
    go_wp2_with (fail)
    rw [rounds_succ]
    go_wp2_with (fail)
    refine (iput_ok 48 (w.heap.size + 1 + 1) 3 _ (put (put 0 0 8 h0) 8 8 h1) 16 8 h2 16 8 _ rfl rfl hB5 (by simp) rfl (by rw [put_le0, put_le8 _ _ lH0]; omega) (by omega) (by omega) lH2).mono ?_
    rintro e w6 ⟨rfl, hB6, hbb⟩
    have bw6 := bw5.trans (hbb.mono (by omega))
    have hz6 := hz5.below hbb (by omega)
    clear hbb bw5 hB5 hz5 hlt
    have hlt := hB6.lt
    go_wp2_with (fail)
    rw [rounds_succ]
    go_wp2_with (fail)
    refine (iput_ok 48 (w.heap.size + 1 + 1) 3 _ (put (put (put 0 0 8 h0) 8 8 h1) 16 8 h2) 24 8 h3 24 8 _ rfl rfl hB6 (by simp) rfl (by rw [put_two _ _ _ lH0 lH1]; omega) (by omega) (by omega) lH3).mono ?_
    rintro e w7 ⟨rfl, hB7, hbb⟩
    have bw7 := bw6.trans (hbb.mono (by omega))
    have hz7 := hz6.below hbb (by omega)
    clear hbb bw6 hB6 hz6 hlt
    have hlt := hB7.lt
    replace hB7 : Blk 48 w7 (w.heap.size + 1 + 1) [n0, s, a, put (put (put (put 0 0 8 h0) 8 8 h1) 16 8 h2) 24 8 h3, p, t, c, 0] := hB7
    rw [put_four _ _ _ _ lH0 lH1 lH2, HN4.out] at hB7
    go_wp2_with (fail)
    rw [rounds_succ]
    go_upto_region 11 with (fail)
    refine wp_region_lit ?_
    refine wpList_load_row rfl 48 (.tmp 3) rfl (w.heap.size + 1 + 1) rfl 48 _ (0, 0) (.array 8 44) hB7 Tryd.underlying48 rfl (by kernel_rfl) ?_
    refine wpList_store_row rfl 48 (.tmp 2) (.tmp 56) rfl (w.heap.size + 1) _ rfl rfl 48 _ hz7 (by kernel_rfl) rfl (Array.all_eq_true_iff_forall_mem.2 fun v hv => wv_one _ v (by simpa using hv)) ?_
    refine wpList_nil ?_
    have q8 := setRow_heap w7 (w.heap.size + 1) _ (wv [n0, s, a, n3, p, t, c, 0]).toArray 48 (0, 0) hz7
    have q9 := below_setRow bw7 (show w.heap.size ≤ w.heap.size + 1 by omega) (wv [n0, s, a, n3, p, t, c, 0]).toArray
    have hw : w7.setRow (w.heap.size + 1) (wv [n0, s, a, n3, p, t, c, 0]).toArray = w7.setRow (w.heap.size + 1) (wv [n0, s, a, n3, p, t, c, 0]).toArray := rfl
    generalize w7.setRow (w.heap.size + 1) (wv [n0, s, a, n3, p, t, c, 0]).toArray = W8 at *
    clear hw
    have q8 := Lib.hid q8
    go_wp2_with (fail)
    exact bodyPost_ret (results_cell_row rfl _ _ (w.heap.size + 1) 48 _ (0, 0) (.array 8 44) rfl q8.out Tryd.underlying48 rfl (by kernel_rfl)) rfl ⟨rfl, q9⟩
theorem written_calls (x : Ino) (w : World) (hx : Small x) : Calls Tryd.prog 16 #[x.v] w fun e w' => e = .returned (.agg (wv (wrL x)).toArray) ∧ Below w.heap.size w w' :=
  written_go x w hx _ _ rfl rfl
end Go.Proofs.YtppnicdhahgigaaDoor
