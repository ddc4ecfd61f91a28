/- The document's own taken, Free and Same of ints; both Turned; a twin of a row, one bit of it marked. -/
import Derived.Test.YtaafchcpnceddaaDoorUa
set_option linter.unusedSimpArgs false
set_option linter.unusedVariables false
namespace Go.Proofs.YtaafchcpnceddaaDoor
open Go.RowKit WordMath
theorem taken_calls (A : Option Addr) (l : List Nat) (c : Nat) (i : Int) (w : World) (h0 : 1 ≤ i) (h1 : i ≤ 64 * (l.length : Int)) (hr : Row w A l) (hl : Wd l) (hlen : l.length ≤ 1048576) :
    Calls Tryd.prog 23 #[.slice A l.length c, .int .i64 i] w fun e w' => e = .returned (.bool (bitL l (i - 1).toNat == 1)) ∧ w = w' := by
  have hb : isBit l (i - 1) := ⟨by omega, by omega⟩
  have kv := Lib.hid (hasV_yes hb)
  clear hb
  go_enter Tryd.func23, Tryd.ntmps23
  go_wp2_with (go_at_call 32; refine (rhas_calls A l c (i - 1) w (by omega) hr hl).mono ?_; rintro e w' ⟨rfl, rfl⟩)
  go_ret
  rw [kv.out]
  exact ⟨rfl, rfl⟩
theorem bit_two (l : List Nat) (i : Nat) (h : (bitL l i == 1) = false) : bitL l i = 0 := by
  have := bitL_lt l i
  have : bitL l i ≠ 1 := by simpa using h
  omega
theorem rfree_calls (A : Option Addr) (l : List Nat) (c : Nat) (n : Int) (w : World) (hn : -9223372036854775808 ≤ n) (hn2 : n ≤ 9223372036854775807) (hr : Row w A l) (hl : Wd l) (hlen : l.length ≤ 1048576) :
    Calls Tryd.prog 13 #[.slice A l.length c, .int .i64 n] w fun e w' => e = .returned (.tuple #[.int .i64 (freeV l n), .int .i64 (freeE l n)]) ∧ w = w' := by
  have cv := may_calls A l c n w hn2 hlen
  cases hv : validB l n
  · rw [hv] at cv
    have kv := Lib.hid (freeV_no hv)
    have ke := Lib.hid (freeE_no hv)
    have CV := Lib.hid cv
    clear cv hv
    go_enter Tryd.func13, Tryd.ntmps13
    go_wp2_with (go_at_call 27; refine (show Calls Tryd.prog 27 _ _ _ from CV.out).mono ?_; rintro e w' ⟨rfl, rfl⟩)
    go_ret2
    rw [kv.out, ke.out]
    exact ⟨rfl, rfl⟩
  · rw [hv] at cv
    have kv := Lib.hid (freeV_yes hv)
    have ke := Lib.hid (freeE_yes hv)
    obtain ⟨h0, h1⟩ := validB_iff.1 hv
    obtain ⟨m, rfl⟩ := Int.eq_ofNat_of_zero_le h0
    have HK : Hid (frN l (m : Int) = (freesL l m).length) := rfl
    have CV := Lib.hid cv
    clear cv hv h0
    go_enter Tryd.func13, Tryd.ntmps13
    go_wp2_with (go_at_call 27; refine (show Calls Tryd.prog 27 _ _ _ from CV.out).mono ?_; rintro e w' ⟨rfl, rfl⟩)
    go_loop [6, 7] (fun k i => ∃ j x : Nat, i = .int .i64 ((j : Int) + 1) ∧ j ≤ m ∧ k = .int .i64 (x : Int) ∧ Hid ((freesL l j).length = x)) (fun _ i => m + 1 - (intOf i).toNat)
    case atStart => exact ⟨0, 0, rfl, by omega, rfl, rfl⟩
    case round =>
      obtain ⟨j, x, rfl, hj, rfl, hx⟩ := hrel
      have hxl := frees_len l j
      rw [hx.out] at hxl
      by_cases hjm : j < m
      · have hs := frees_succ l j
        have ct := taken_calls A l c ((j : Int) + 1) w (by omega) (by omega) hr hl hlen
        rw [show ((j : Int) + 1 - 1).toNat = j by omega] at ct
        have hx1 : x ≤ j := by omega
        clear hxl
        cases hb : (bitL l j == 1)
        · rw [if_pos (bit_two _ _ hb)] at hs
          rw [hb] at ct
          have HS : Hid ((freesL l (j + 1)).length = x + 1) := by
            show (freesL l (j + 1)).length = x + 1
            rw [hs, List.length_append, hx.out]; rfl
          have CT := Lib.hid ct
          clear ct hs hb
          go_wp2_with (go_at_call 23; refine (show Calls Tryd.prog 23 _ _ _ from CT.out).mono ?_; rintro e w' ⟨rfl, rfl⟩)
          go_round
          case rel => exact ⟨j + 1, x + 1, by go_num, by omega, by go_num, HS⟩
          case measure => simp [intOf]; omega
        · rw [if_neg (fun h => by rw [h] at hb; cases hb)] at hs
          rw [hb] at ct
          have HS : Hid ((freesL l (j + 1)).length = x) := by
            show (freesL l (j + 1)).length = x
            rw [hs, hx.out]
          have CT := Lib.hid ct
          clear ct hs hb
          go_wp2_with (go_at_call 23; refine (show Calls Tryd.prog 23 _ _ _ from CT.out).mono ?_; rintro e w' ⟨rfl, rfl⟩)
          go_round
          case rel => exact ⟨j + 1, x, by go_num, by omega, rfl, HS⟩
          case measure => simp [intOf]; omega
      · obtain rfl : j = m := by omega
        go_wp2_with (fail)
        go_ret2
        rw [kv.out, ke.out, HK.out, hx.out]
        exact ⟨rfl, rfl⟩
/-- Two rows of ints that read the same. -/
theorem isame_calls (A B : Option Addr) (l : List Int) (c d : Nat) (w : World) (ha : Cel w A (iv l)) (hb : Cel w B (iv l)) (hlen : l.length ≤ 140737488355328) :
    Calls Tryd.prog 14 #[.slice A l.length c, .slice B l.length d] w (Q (.bool true) w) := by
  go_enter Tryd.func14, Tryd.ntmps14
  go_wp2_with (fail)
  go_loopw [5] (fun i wr => ∃ k : Nat, i = .int .i64 k ∧ k ≤ l.length ∧ ∃ q, wr = w.drewN q) (fun i _ => l.length - (intOf i).toNat)
  case atStart => exact ⟨0, rfl, by omega, 0, rfl⟩
  case round =>
    obtain ⟨k, rfl, hk, q, rfl⟩ := hrel
    by_cases h1 : k < l.length
    · obtain ⟨ad, rfl, h1a⟩ := ha.int h1
      obtain ⟨ad', rfl, h1b⟩ := hb.int h1
      clear ha hb
      generalize l.getD k 0 = x at *
      go_wp2_with (fail)
      go_quiet (fail)
      go_wp2_with (fail)
      go_roundw
      case rel => exact ⟨k + 1, by go_num, by omega, _, rfl⟩
      case measure => simp [intOf]; omega
    · obtain rfl : k = l.length := by omega
      go_wp2_with (fail)
      go_ret
      exact Q.of
/-- A new row of the call's own. -/
theorem twin_calls (A : Option Addr) (l : List Nat) (c : Nat) (w : World) (hr : Row w A l) (hlen : l.length ≤ 1048576) :
    Calls Tryd.prog 20 #[.slice A l.length c] w fun e w' => e = .returned (.slice (some ⟨w.heap.size, 0, none⟩) l.length l.length) ∧ Blk 38 w' w.heap.size l ∧ Below w.heap.size w w' := by
  have hmk := run_make_row' (P := Tryd.prog) 22 38 (.int .u64 0) 8 Tryd.underlying22 u64_info rfl .i64 .i64 l.length (by omega) (by omega)
  have hcop := (copy_from (w := w) (w1 := w.alloc (.cells (madeCells #[.int .u64 0] l.length) 38)) (some ⟨w.heap.size, 0, none⟩) hr ((Below.refl _ _).alloc (Nat.le_refl _) _))
  go_enter Tryd.func20, Tryd.ntmps20
  go_wp2_with (refine wpList_copy_splice rfl (.tmp 7) (.tmp 8) 22 22 rfl 38 Tryd.underlying22 u64_size (some ⟨w.heap.size, 0, none⟩) A l.length l.length l.length c rfl rfl w.heap.size 0 (wv (List.replicate l.length 0)) 38 (Blk.new w 38 l.length) (wv l) (by simp [wv_length]) hcop (by simp [wv_length]) (wv_one l) w.heap.size w ((Below.refl _ _).alloc (Nat.le_refl _) _) (Nat.le_refl _) ?_; intro w1 hg1 hb1; have hB1 := blk_spliced hg1; clear hg1)
  go_ret
  exact ⟨rfl, hB1, hb1⟩
theorem put1_calls (v a b : Int) (w : World) (v0 : 0 ≤ v) (v1 : v < 18446744073709551616) (a0 : 0 ≤ a) (a1 : a < 64) (b0 : 0 ≤ b) (b1 : b < 2) :
    Calls Tryd.prog 31 #[.int .u64 v, .int .i64 a, .int .i64 1, .int .u64 b] w (Q (.tuple #[.int .u64 (put v.toNat a.toNat 1 b.toNat : Nat), .int .i64 0]) w) := by
  have hp : isPut a 1 b := ⟨⟨a0, by omega, by omega⟩, by simp; omega⟩
  have h := put_calls v a 1 b w v0 v1 (by omega) b0
  rw [putV_yes hp, putE_yes hp] at h
  exact h
/-- A row with bit i as b. -/
def bitTo (l : List Nat) (i b : Nat) : List Nat := l.set (i / 64) (put (l.getD (i / 64) 0) (i % 64) 1 b)
theorem bitTo_len (l : List Nat) (i b : Nat) : (bitTo l i b).length = l.length := by simp [bitTo]
theorem bitTo_on (l : List Nat) (i : Nat) : bitTo l i 1 = onL l i := rfl
theorem bitTo_off (l : List Nat) (i : Nat) : bitTo l i 0 = clrL l i := rfl
/-- One bit of a row of one's own. -/
theorem mark_calls (g : Nat) (l : List Nat) (c i b : Nat) (w : World) (hB : Blk 38 w g l) (hl : Wd l) (hi : i < 64 * l.length) (hb : b < 2) (hlen : l.length ≤ 1048576) :
    Calls Tryd.prog 22 #[.slice (some ⟨g, 0, none⟩) l.length c, .int .i64 ((i : Int) + 1), .int .u64 (b : Int)] w fun e w' => (∃ v, e = .returned v) ∧ ∃ q u, w' = (w.drewN q).setCell ⟨g, i / 64, none⟩ u ∧ Blk 38 w' g (bitTo l i b) := by
  have hw := hl (i / 64)
  have hk : i / 64 < l.length := by omega
  have hc := hB.cell (i / 64) hk
  have hf := hB.frozen (i / 64)
  have HB : Hid (bitTo l i b = l.set (i / 64) (put (l.getD (i / 64) 0) (i % 64) 1 b)) := rfl
  clear hl
  generalize hx : l.getD (i / 64) 0 = x at *
  clear hx
  have e1 : ((i : Int) + 1 - 1) = (i : Int) := by omega
  have HS := Lib.hid (fun q => (hB.drewN q).set (i / 64) (put x (i % 64) 1 b))
  clear hB
  go_enter Tryd.func22, Tryd.ntmps22
  go_wp2_with (go_at_call 31; refine (put1_calls _ _ _ _ (by omega) (by omega) (by omega) (by omega) (by omega) (by omega)).mono ?_; rintro e w' ⟨rfl, q, rfl⟩)
  refine bodyPost_end (results_none rfl _ _ _) rfl ⟨⟨_, rfl⟩, q, _, rfl, ?_⟩
  rw [HB.out]
  exact HS.out q
theorem on_alloc2 (w : World) (o : Obj) : Below w.heap.size w (w.alloc o) := (Below.refl _ _).alloc (Nat.le_refl _) o
/-- A row of ints of the call's own. -/
def IOwn (B : Nat) (w : World) (A : Option Addr) (c : Nat) (xs : List Int) : Prop := OwnR w 3 1 A xs.length c (iv xs) ∧ ∀ ad, A = some ad → B ≤ ad.block
theorem IOwn.nil (B : Nat) (w : World) : IOwn B w none 0 [] := ⟨OwnR.nil _ _ _, fun ad h => by cases h⟩
theorem IOwn.cel {B : Nat} {w : World} {A : Option Addr} {c : Nat} {xs : List Int} (h : IOwn B w A c xs) : Cel w A (iv xs) := h.1.cel
theorem IOwn.below {B : Nat} {w w' : World} {A : Option Addr} {c : Nat} {xs : List Int} (h : IOwn B w A c xs) (hb : Below w.heap.size w w') : IOwn B w' A c xs := ⟨h.1.keep fun ad e => hb.block _ (h.1.lt ad e), h.2⟩
theorem IOwn.mono {B B' : Nat} {w : World} {A : Option Addr} {c : Nat} {xs : List Int} (h : IOwn B w A c xs) (hb : B' ≤ B) : IOwn B' w A c xs := ⟨h.1, fun ad e => Nat.le_trans hb (h.2 ad e)⟩
/-- One element more, behind what the call has made. -/
theorem IOwn.step {B n : Nat} {w wa w1 : World} {A : Option Addr} {c c' g : Nat} {xs ys : List Int} {x : Int} (h : IOwn B wa A c xs) (hB : B ≤ wa.heap.size) (hbw : Below B w wa) (hn : xs.length = n)
    (hown : OwnR w1 3 1 (some ⟨g, 0, none⟩) (n + 1) c' (iv xs ++ iv [x])) (hgr : wa.grownBy w1 (A.map (·.block))) (hg : A = some ⟨g, 0, none⟩ ∨ g = wa.heap.size) (hy : xs ++ [x] = ys) :
    IOwn B w1 (some ⟨g, 0, none⟩) c' ys ∧ Below B w w1 ∧ ys.length = n + 1 := by
  subst hy
  have hl : (xs ++ [x]).length = n + 1 := by rw [List.length_append, hn]; rfl
  refine ⟨⟨by rw [hl, iv_append]; exact hown, ?_⟩, ?_, hl⟩
  · intro ad e
    injection e with e
    subst e
    rcases hg with hg | hg
    · exact h.2 _ hg
    · show B ≤ g
      omega
  · refine hbw.grown hgr hB ?_
    intro k hk
    cases A with
    | none => cases hk
    | some ad =>
      injection hk with hk
      rw [← hk]
      exact h.2 ad rfl
theorem IOwn.two {B : Nat} {w : World} {A : Option Addr} {c : Nat} {xs : List Int} (h : IOwn B w A c xs) (q : Nat) (o : Obj) : IOwn B ((w.drewN q).alloc o) A c xs := h.below ((below_drewN (Below.refl _ _) q).alloc (Nat.le_refl _) o)
theorem IOwn.at {B n : Nat} {w : World} {A : Option Addr} {c : Nat} {xs : List Int} (h : IOwn B w A c xs) (hn : xs.length = n) : OwnR w 3 1 A n c (iv xs) := by subst hn; exact h.1
theorem cells_one {w0 : World} {g : Nat} {x : Int} {t : TypeId} (hw : w0.heap[g]? = some (.cells #[.int .i64 x] t (0, 0))) :
    ∀ j u, (iv [x])[j]? = some u → w0.cell? ((⟨g, 0, none⟩ : Addr).add j) = some u := by
  intro j u hu
  rw [add_zero_block, cell_of_row w0 g j _ t (0, 0) hw, ← hu, List.getElem?_toArray]
  rfl
/-- The words that differ, of the first k. -/
def ni (l : List Nat) : List Int := l.map fun (x : Nat) => (x : Int)
def turnTo (a b : List Nat) (k : Nat) : List Int := ni ((List.range k).filter fun i => a.getD i 0 != b.getD i 0)
theorem turnTo_succ (a b : List Nat) (k : Nat) : turnTo a b (k + 1) = if a.getD k 0 = b.getD k 0 then turnTo a b k else turnTo a b k ++ [(k : Int)] := by
  unfold turnTo ni
  rw [List.range_succ, List.filter_append, List.map_append]
  by_cases h : a.getD k 0 = b.getD k 0
  · rw [if_pos h]
    have hb : (a.getD k 0 != b.getD k 0) = false := by rw [h]; simp
    simp only [List.filter_cons, hb, List.filter_nil, Bool.false_eq_true, if_false, List.map_nil, List.append_nil]
  · rw [if_neg h]
    have hb : (a.getD k 0 != b.getD k 0) = true := by rw [bne_iff_ne]; exact h
    simp only [List.filter_cons, hb, List.filter_nil, if_true, List.map_nil, List.map_cons]
theorem turnTo_len (a b : List Nat) (k : Nat) : (turnTo a b k).length ≤ k := by
  unfold turnTo ni
  rw [List.length_map]
  refine Nat.le_trans (List.length_filter_le _ _) ?_
  rw [List.length_range]; exact Nat.le_refl _
section
variable {P : Program}
/-- 'min(x, y)' of two numbers. -/
theorem run_min2 (ats : Array TypeId) (ty : TypeId) (x y : Nat) (w : World) : (Builtin.min_ ats ty #[.int .i64 (x : Int), .int .i64 (y : Int)]).run P w = .ok (.int .i64 ((min x y : Nat) : Int)) w := by
  have h : ∀ a b : Nat, (if (b : Int) < (a : Int) then (b : Int) else (a : Int)) = ((min a b : Nat) : Int) := by
    intro a b
    split <;> omega
  simp only [Builtin.min_, List.foldlM_cons, List.foldlM_nil, Builtin.min2, Sem.run_bind, Sem.run_pure, Result.andThen_ok, h]
theorem wpList_min2 {ops : Array Oper} {rest : List Oper} {o : Oper} {a : Act} {w : World} {Q : Exit → Act → World → Prop} (hgd : o.guard = none) (x y : Operand) (ts : Array TypeId)
    (ho : o.op = .call { callee := .builtin .min, args := #[x, y], argTypes := ts }) (n1 n2 m : Nat) (h1 : a.eval x = .int .i64 (n1 : Int)) (h2 : a.eval y = .int .i64 (n2 : Int)) (hm : min n1 n2 = m)
    (h : wpList P ops Q rest (a.put o.dst (.int .i64 (m : Int))) w) : wpList P ops Q (o :: rest) a w :=
  wpList_plain hgd fun K hK => by
    unfold Oper.wp execOp
    simp only [ho, resolve, invoke, builtin, Sem.run_bind, Sem.run_pure, Result.andThen_ok, List.map_toArray, List.map_cons, List.map_nil, h1, h2, run_min2, hm]
    exact hK _ _ h
end
/-- It hands back a row of ints of its own. -/
def GivesI (xs : List Int) (w : World) (e : Ending) (w' : World) : Prop := ∃ A c, e = .returned (.slice A xs.length c) ∧ IOwn w.heap.size w' A c xs ∧ Below w.heap.size w w'
set_option maxRecDepth 100000 in
theorem turned_calls (A B : Option Addr) (l m : List Nat) (c d : Nat) (w : World) (ha : Row w A l) (hb : Row w B m) (hlen : l.length ≤ 1048576) (hlen2 : m.length ≤ 1048576) :
    Calls Tryd.prog 16 #[.slice A l.length c, .slice B m.length d] w (GivesI (ni (turnedL l m)) w) := by
  obtain ⟨i0, hi0, hz0, hs0, hb0⟩ := info_parts i64_info
  have HI := Lib.hid hi0
  have HZ := Lib.hid hz0
  have HS := Lib.hid hs0
  have HB := Lib.hid hb0
  clear hi0 hz0 hs0 hb0
  have KV : Hid (turnTo l m (min l.length m.length) = ni (turnedL l m)) := rfl
  obtain ⟨M, hM⟩ : ∃ M, min l.length m.length = M := ⟨_, rfl⟩
  have hM2 : M ≤ l.length := by omega
  have hM3 : M ≤ m.length := by omega
  have HM := Lib.hid hM
  rw [hM] at KV
  clear hM
  go_enter Tryd.func16, Tryd.ntmps16
  go_wp2_with (refine wpList_min2 rfl (.tmp 8) (.tmp 10) _ rfl l.length m.length M rfl rfl HM.out ?_)
  go_loopw [5, 12] (fun out i wr => ∃ (j : Nat) (L : List Int) (n : Nat) (R : Option Addr) (cr : Nat), i = .int .i64 j ∧ j ≤ M ∧ out = .slice R n cr ∧ Hid (L.length = n) ∧ n ≤ j ∧ Hid (turnTo l m j = L) ∧ Hid (IOwn w.heap.size wr R cr L) ∧ Below w.heap.size w wr) (fun _ i _ => M - (intOf i).toNat)
  case atStart => exact ⟨0, [], 0, none, 0, rfl, by omega, rfl, rfl, by omega, rfl, IOwn.nil _ _, Below.refl _ _⟩
  case round =>
    obtain ⟨j, L, n, R, cr, rfl, hj, rfl, hn, hnj, hL, hO, HBr⟩ := hrel
    by_cases hjm : j < M
    · have hs := turnTo_succ l m j
      have hra := ha.below HBr
      have hrb := hb.below HBr
      have hsz := HBr.size
      obtain ⟨ad, rfl, _, hca⟩ := hra (by omega)
      obtain ⟨ad', rfl, _, hcb⟩ := hrb (by omega)
      have h1a := hca j (by omega)
      have h1b := hcb j (by omega)
      clear hra hrb ha hb
      by_cases he : l.getD j 0 = m.getD j 0
      · rw [if_pos he, hL.out] at hs
        rw [← he] at h1b
        have HS2 := Lib.hid hs
        clear hca hcb hs he
        generalize l.getD j 0 = x at *
        go_wp2_with (fail)
        go_quiet (fail)
        go_wp2_with (fail)
        go_roundw
        case rel => exact ⟨j + 1, L, n, R, cr, by go_num, by omega, rfl, hn, by omega, HS2, (hO.out.below (below_drewN (Below.refl _ _) _)), below_drewN HBr _⟩
        case measure => simp [intOf]; omega
      · rw [if_neg he, hL.out] at hs
        have HS2 := Lib.hid hs
        have hne : ((l.getD j 0 : Int) != (m.getD j 0 : Nat)) = true := by rw [bne_iff_ne]; omega
        clear hca hcb hs he
        generalize l.getD j 0 = x at *
        generalize m.getD j 0 = y at *
        go_wp2_with (fail)
        go_quiet (fail)
        go_wp2_with (at_builtin; refine wpList_append_r rfl (.tmp 24) (.tmp 26) 25 rfl 3 i0 _ 1 8 Tryd.underlying25 HI.out HZ.out HS.out HB.out rfl R n cr (iv L) rfl ((hO.out.two nq _).at hn.out) ⟨wr.heap.size, 0, none⟩ 1 1 (iv [(j : Int)]) rfl rfl (cells_one (heap_alloc_new _ _)) (iv_one _) (by decide) (by unfold maxLen; omega) (by omega) ?_; intro g' c2 w1 hown2 hgr hg)
        have hst := (hO.out.two nq _).step (by simp; omega) ((below_drewN HBr nq).alloc (by exact hsz) _) hn.out hown2 hgr hg HS2.out.symm
        go_roundw
        case rel => exact ⟨j + 1, _, n + 1, _, c2, by go_num, by omega, rfl, hst.2.2, by omega, rfl, hst.1, hst.2.1⟩
        case measure => simp [intOf]; omega
    · obtain rfl : j = M := by omega
      go_wp2_with (fail)
      go_ret
      refine ⟨R, cr, ?_, ?_, HBr⟩
      · rw [← KV.out, hL.out, hn.out]
        rfl
      · rw [← KV.out, hL.out]
        exact hO.out
end Go.Proofs.YtaafchcpnceddaaDoor
