/- EntryWrites: whatever it is called with, it hands back true; nothing that was there has turned. -/
import Derived.Test.YtipghcpodhokbaaDoorLaw1
import Derived.Laws.Rows
set_option linter.unusedSimpArgs false
set_option linter.unusedVariables false
namespace Go.Proofs.YtipghcpodhokbaaDoor
open Go.RowKit WordMath SumMath
/-- A row of one's own reads as the words that it holds. -/
theorem row_own {e : TypeId} {w : World} {A : Option Addr} {n c : Nat} {l : List Nat} (h : OwnR w e 1 A n c (wv l)) : Row w A l := fun h0 => by
  obtain ⟨ad, e1, e2, e3⟩ := h.cel (by simpa [wv] using h0)
  refine ⟨ad, e1, e2, fun k hk => e3 k _ ?_⟩
  simp [wv, List.getD_eq_getElem?_getD, List.getElem?_eq_getElem hk]
/-- A row, if m. -/
def RowIf (m : Bool) (w : World) (A : Option Addr) (l : List Nat) : Prop := m = true → Row w A l
theorem RowIf.on {m : Bool} {w w' : World} {A : Option Addr} {l : List Nat} (h : RowIf m w A l) (hb : On w w') : RowIf m w' A l := fun e => (h e).below hb
/-- What Encode and Block hand back: the words, or nothing. -/
def Gives (m : Bool) (l : List Nat) (w : World) (e : Ending) (w' : World) : Prop :=
  ∃ A c n x, e = .returned (.tuple #[.slice A n c, .int .i64 x]) ∧ On w w' ∧ Hid ((m = true → x = 0 ∧ n = l.length) ∧ (m = false → x = 2 ∧ n = 0) ∧ n ≤ c) ∧ RowIf m w' A l
theorem encode_calls (x : Slt) (P I B : Int) (w : World) (hT : TabAt w) : Calls Tryd.prog 10 #[x.v, gv P I B] w (Gives (mayB x P I B) (slW x) w) := by
  cases hm : mayB x P I B with
  | true =>
    refine (encode_ok x P I B w hm hT).mono ?_
    rintro e w' ⟨g, rfl, hI, _, hb⟩
    exact ⟨_, _, _, _, rfl, hb, Lib.hid ⟨fun _ => ⟨rfl, (slW_length x).symm⟩, (fun h => by cases h), Nat.le_refl _⟩, fun _ => Blk.row hI⟩
  | false =>
    refine (encode_bad x P I B w hm).mono ?_
    rintro e w' ⟨rfl, hb⟩
    exact ⟨_, _, _, _, rfl, hb, Lib.hid ⟨(fun h => by cases h), (fun _ => ⟨rfl, rfl⟩), Nat.le_refl _⟩, fun h => by cases h⟩
theorem blockw_calls (d : Dbl) (P I B : Int) (w : World) (hL : d.L.length = 10) (hT : TabAt w) : Calls Tryd.prog 11 #[d.v, gv P I B] w (Gives (mayD d P I B) (dW d) w) := by
  cases hm : mayD d P I B with
  | true =>
    refine (block_calls d P I B w hL hm hT).mono ?_
    rintro e w' ⟨g, c, rfl, hI, _, hb⟩
    exact ⟨_, _, _, _, rfl, hb, Lib.hid ⟨fun _ => ⟨rfl, (dW_length hL).symm⟩, (fun h => by cases h), hI.2.1⟩, fun _ => row_own hI⟩
  | false =>
    refine (block_bad d P I B w hL hm hT).mono ?_
    rintro e w' ⟨rfl, hb⟩
    exact ⟨_, _, _, _, rfl, hb, Lib.hid ⟨(fun h => by cases h), (fun _ => ⟨rfl, rfl⟩), Nat.le_refl _⟩, fun h => by cases h⟩
theorem head_calls (n P I B : Int) (w : World) : Calls Tryd.prog 12 #[.int .i64 n, gv P I B] w fun e w' => ∃ h y : Int, e = .returned (.tuple #[.int .u64 h, .int .i64 y]) ∧ On w w' ∧ Hid ((nextB n P I B = true → h = (headN n : Nat) ∧ y = 0) ∧ (nextB n P I B = false → h = 0 ∧ y = 2)) := by
  cases hm : nextB n P I B with
  | true =>
    refine (head_ok n P I B w hm).mono ?_
    rintro e w' ⟨rfl, hb⟩
    exact ⟨_, _, rfl, hb, Lib.hid ⟨fun _ => ⟨rfl, rfl⟩, fun h => by cases h⟩⟩
  | false =>
    refine (head_bad n P I B w hm).mono ?_
    rintro e w' ⟨rfl, hb⟩
    exact ⟨_, _, rfl, hb, Lib.hid ⟨(fun h => by cases h), fun _ => ⟨rfl, rfl⟩⟩⟩
/-- A slot's block, a directory block's, a geometry's, one behind another. -/
structure Tri (w0 w : World) (s : Slt) (d : Dbl) (P I B : Int) : Prop where
  on : On w0 w
  slo : Sb w w0.heap.size s
  blk : Db w (w0.heap.size + 1) d
  geo : Gb w (w0.heap.size + 1 + 1) P I B
theorem Tri.on' {w0 w w' : World} {s : Slt} {d : Dbl} {P I B : Int} (h : Tri w0 w s d P I B) (hb : On w w') : Tri w0 w' s d P I B := ⟨h.on.trans hb, Ob.on h.slo hb, Ob.on h.blk hb, Ob.on h.geo hb⟩
theorem Tri.new (w : World) (s : Slt) (d : Dbl) (P I B : Int) : Tri w (((w.alloc (.cells s.c 23)).alloc (.cells d.c 26)).alloc (.cells #[.int .i64 P, .int .i64 I, .int .i64 B] 28)) s d P I B := by
  refine ⟨(on_two _ _ _).trans (on_alloc _ _), ((Ob.new w _).alloc _).alloc _, ?_, ?_⟩
  · have h := Ob.new (w.alloc (.cells s.c 23)) (.cells d.c 26)
    rw [World.size_alloc] at h
    exact h.alloc _
  · have h := Ob.new ((w.alloc (.cells s.c 23)).alloc (.cells d.c 26)) (.cells #[.int .i64 P, .int .i64 I, .int .i64 B] 28)
    rw [World.size_alloc, World.size_alloc] at h
    exact h
theorem Dbl.infoT {d : Dbl} (h : d.L.length = 10) : (Tryd.prog.info? 26).map (·.size) = some d.c.size := by rw [Dbl.size h]; kernel_rfl
/-- A struct loaded whole, behind '&&' and '||' too. -/
theorem wpList_load_rowW {P : Program} {ops : Array Oper} {rest : List Oper} {o : Oper} {a : Act} {w : World} {Q : Exit → Act → World → Prop} (hgd : Region.wanted o (yielded ops a.tmps) = true) (ty : TypeId) (x : Operand) (ho : o.op = .load ty x)
    (g : Nat) (hx : a.eval x = .pointer (some ⟨g, 0, none⟩)) (t : TypeId) (cs : Array Value) (fr : Nat × Nat) (d : TypeDesc) (hg : w.heap[g]? = some (.cells cs t fr))
    (hu : P.underlying ty = some d) (hd : (match d with | .struct _ | .array _ _ => true | _ => false) = true) (hi : (P.info? ty).map (·.size) = some cs.size)
    (h : wpList P ops Q rest (a.put o.dst (.agg cs)) w) : wpList P ops Q (o :: rest) a w :=
  BigFrame.wpList_want hgd fun _ hK => wp_load_row ty x ho g hx t cs fr d hg hu hd hi (hK _ _ h)
set_option maxRecDepth 100000 in
set_option maxHeartbeats 2000000 in
theorem ewrites_long (s : Slt) (d : Dbl) (n P I B : Int) (w : World) (hL : d.L.length = 10) (hl : 200 < s.S.size ∨ longD d = true) (hT : TabAt w) (hE : ErrAt w) :
    Calls Tryd.prog 3 #[s.v, d.v, .int .i64 n, gv P I B] w fun e w' => e = .returned (.bool true) ∧ On w w' := by
  have T0 := Lib.hid (Tri.new w s d P I B)
  have HT := Lib.hid hT
  have HE := Lib.hid hE
  have HL := Lib.hid hL
  clear hT hE hL
  by_cases hs : 200 < s.S.size
  · clear hl
    go_enter Tryd.func3, Tryd.ntmps3
    go_upto_region 1 with (fail)
    generalize ((w.alloc (.cells s.c 23)).alloc (.cells d.c 26)).alloc (.cells #[.int .i64 P, .int .i64 I, .int .i64 B] 28) = W at *
    obtain ⟨s0, s1, s2⟩ := Sb.cells T0.out.slo
    have hls := Ob.lt T0.out.slo
    go_wp2_with (fail)
    refine (alive_calls _ (HT.out.below T0.out.on) (HE.out.below T0.out.on)).mono ?_
    rintro e w1 ⟨rfl, hb⟩
    have b1 := T0.out.on.trans hb
    clear T0 s0 s1 s2 hls hb
    go_wp2_with (fail)
    go_ret
    exact ⟨rfl, b1⟩
  · have hl2 : longD d = true := by
      rcases hl with h | h
      · exact absurd h hs
      · exact h
    have hlong := fun W => long_calls d W HL.out
    rw [hl2] at hlong
    have HLO := Lib.hid hlong
    clear hl hl2 hlong
    go_enter Tryd.func3, Tryd.ntmps3
    go_upto_region 1 with (fail)
    generalize ((w.alloc (.cells s.c 23)).alloc (.cells d.c 26)).alloc (.cells #[.int .i64 P, .int .i64 I, .int .i64 B] 28) = W at *
    obtain ⟨s0, s1, s2⟩ := Sb.cells T0.out.slo
    have hls := Ob.lt T0.out.slo
    have hd : decide (200 < (s.S.size : Int)) = false := by rw [decide_eq_false_iff_not]; omega
    go_wp2_with (refine wpList_load_rowW rfl 26 (.tmp 5) rfl (w.heap.size + 1) rfl 26 d.c (0, 0) _ T0.out.blk Tryd.underlying26 rfl (Dbl.infoT HL.out) ?_)
    refine (HLO.out _).mono ?_
    rintro e w1 ⟨rfl, hb⟩
    replace T0 := Lib.hid (T0.out.on' hb)
    clear hb s0 s1 s2 hls
    go_wp2_with (fail)
    refine (alive_calls _ (HT.out.below T0.out.on) (HE.out.below T0.out.on)).mono ?_
    rintro e w2 ⟨rfl, hb⟩
    have b1 := T0.out.on.trans hb
    clear T0 hb
    go_wp2_with (fail)
    go_ret
    exact ⟨rfl, b1⟩
set_option maxRecDepth 100000 in
set_option maxHeartbeats 4000000 in
theorem ewrites_go (s : Slt) (d : Dbl) (n P I B : Int) (w : World) (hL : d.L.length = 10) (hs : s.S.size ≤ 200) (hl : longD d = false) (hT : TabAt w) (hE : ErrAt w) :
    Calls Tryd.prog 3 #[s.v, d.v, .int .i64 n, gv P I B] w fun e w' => e = .returned (.bool true) ∧ On w w' := by
  have T := Lib.hid (Tri.new w s d P I B)
  have HT := Lib.hid hT
  have HE := Lib.hid hE
  have HL := Lib.hid hL
  have hlong := fun W => long_calls d W hL
  rw [hl] at hlong
  have hen := fun W hW => encode_calls s P I B W hW
  have hbl := fun W hW => blockw_calls d P I B W hL hW
  have hhd := fun W => head_calls n P I B W
  have hrm := fun W => rmay_calls s P I B W (by omega)
  have hem := fun W => emay_calls s P I B W
  have hre := fun (h : mayB s P I B = true) W => rencode_calls s W I (by unfold mayB at h; simp only [Bool.and_eq_true, decide_eq_true_eq] at h; exact h.1.2.1.2) (by unfold mayB at h; simp only [Bool.and_eq_true, decide_eq_true_eq] at h; exact h.2)
  have hmb := fun W => rmayb_calls d P I B W hL (fun k hk => by have := longD_no hl k (by rw [hL]; exact hk); omega)
  have hrb := fun (h : mayD d P I B = true) W => rblock_calls d P I B W hL h
  have hrh : nextB n P I B = true → ∀ W, Calls Tryd.prog 18 #[.int .i64 n] W fun e w' => e = .returned (.int .u64 (headN n : Nat)) ∧ W = w' := fun h W => by
    unfold nextB at h
    simp only [Bool.and_eq_true, decide_eq_true_eq] at h
    obtain ⟨⟨_, _, _, hB⟩, h0, h1⟩ := h
    obtain ⟨k, rfl⟩ := Int.eq_ofNat_of_zero_le h0
    exact rhead_calls k W (by omega)
  have hll := slW_length s
  have hql := dW_length hL
  generalize hm2 : nextB n P I B = m2 at *
  generalize mayB s P I B = m1 at *
  generalize mayD d P I B = m3 at *
  generalize slW s = l at *
  generalize dW d = q at *
  generalize headN n = hh at *
  have HLO := Lib.hid hlong
  have HEN := Lib.hid hen
  have HBL := Lib.hid hbl
  have HHD := Lib.hid hhd
  have HRM := Lib.hid hrm
  have HEM := Lib.hid hem
  have HRE := Lib.hid hre
  have HMB := Lib.hid hmb
  have HRB := Lib.hid hrb
  have HRH := Lib.hid hrh
  have HLL := Lib.hid hll
  have HQL := Lib.hid hql
  have HM2 := Lib.hid hm2
  have hd : decide (200 < (s.S.size : Int)) = false := by rw [decide_eq_false_iff_not]; omega
  clear hT hE hL hs hl hlong hen hbl hhd hrm hem hre hmb hrb hrh hll hql hm2
  go_enter Tryd.func3, Tryd.ntmps3
  go_upto_region 1 with (fail)
  generalize ((w.alloc (.cells s.c 23)).alloc (.cells d.c 26)).alloc (.cells #[.int .i64 P, .int .i64 I, .int .i64 B] 28) = W at *
  obtain ⟨s0, s1, s2⟩ := Sb.cells T.out.slo
  have hls := Ob.lt T.out.slo
  go_wp2_with (first | (refine wpList_load_rowW rfl 23 (.tmp 4) rfl w.heap.size rfl 23 s.c (0, 0) _ T.out.slo Tryd.underlying23 rfl (by kernel_rfl) ?_) | (refine wpList_load_rowW rfl 26 (.tmp 5) rfl (w.heap.size + 1) rfl 26 d.c (0, 0) _ T.out.blk Tryd.underlying26 rfl (Dbl.infoT HL.out) ?_) | (refine wpList_load_rowW rfl 28 (.tmp 7) rfl (w.heap.size + 1 + 1) rfl 28 #[.int .i64 P, .int .i64 I, .int .i64 B] (0, 0) _ T.out.geo Tryd.underlying28 rfl (by kernel_rfl) ?_))
  refine (HLO.out _).mono ?_
  rintro e w1 ⟨rfl, hb⟩
  replace T := Lib.hid (T.out.on' hb)
  clear hb s0 s1 s2 hls hd HLO
  go_wp2_with (first | (refine wpList_load_rowW rfl 23 (.tmp 4) rfl w.heap.size rfl 23 s.c (0, 0) _ T.out.slo Tryd.underlying23 rfl (by kernel_rfl) ?_) | (refine wpList_load_rowW rfl 26 (.tmp 5) rfl (w.heap.size + 1) rfl 26 d.c (0, 0) _ T.out.blk Tryd.underlying26 rfl (Dbl.infoT HL.out) ?_) | (refine wpList_load_rowW rfl 28 (.tmp 7) rfl (w.heap.size + 1 + 1) rfl 28 #[.int .i64 P, .int .i64 I, .int .i64 B] (0, 0) _ T.out.geo Tryd.underlying28 rfl (by kernel_rfl) ?_))
  refine (HEN.out _ (HT.out.below T.out.on)).mono ?_
  rintro e w2 ⟨A1, c1, n1, x1, rfl, hb, G1, R1⟩
  replace T := Lib.hid (T.out.on' hb)
  clear hb HEN
  go_wp2_with (first | (refine wpList_load_rowW rfl 23 (.tmp 4) rfl w.heap.size rfl 23 s.c (0, 0) _ T.out.slo Tryd.underlying23 rfl (by kernel_rfl) ?_) | (refine wpList_load_rowW rfl 26 (.tmp 5) rfl (w.heap.size + 1) rfl 26 d.c (0, 0) _ T.out.blk Tryd.underlying26 rfl (Dbl.infoT HL.out) ?_) | (refine wpList_load_rowW rfl 28 (.tmp 7) rfl (w.heap.size + 1 + 1) rfl 28 #[.int .i64 P, .int .i64 I, .int .i64 B] (0, 0) _ T.out.geo Tryd.underlying28 rfl (by kernel_rfl) ?_))
  refine (HBL.out _ (HT.out.below T.out.on)).mono ?_
  rintro e w3 ⟨A3, c3, n3, x3, rfl, hb, G3, R3⟩
  replace T := Lib.hid (T.out.on' hb)
  replace R1 := R1.on hb
  clear hb HBL
  go_wp2_with (first | (refine wpList_load_rowW rfl 23 (.tmp 4) rfl w.heap.size rfl 23 s.c (0, 0) _ T.out.slo Tryd.underlying23 rfl (by kernel_rfl) ?_) | (refine wpList_load_rowW rfl 26 (.tmp 5) rfl (w.heap.size + 1) rfl 26 d.c (0, 0) _ T.out.blk Tryd.underlying26 rfl (Dbl.infoT HL.out) ?_) | (refine wpList_load_rowW rfl 28 (.tmp 7) rfl (w.heap.size + 1 + 1) rfl 28 #[.int .i64 P, .int .i64 I, .int .i64 B] (0, 0) _ T.out.geo Tryd.underlying28 rfl (by kernel_rfl) ?_))
  refine (HHD.out _).mono ?_
  rintro e w4 ⟨h4, y4, rfl, hb, G2⟩
  replace T := Lib.hid (T.out.on' hb)
  replace R1 := R1.on hb
  replace R3 := R3.on hb
  clear hb HHD
  go_wp2_with (first | (refine wpList_load_rowW rfl 23 (.tmp 4) rfl w.heap.size rfl 23 s.c (0, 0) _ T.out.slo Tryd.underlying23 rfl (by kernel_rfl) ?_) | (refine wpList_load_rowW rfl 26 (.tmp 5) rfl (w.heap.size + 1) rfl 26 d.c (0, 0) _ T.out.blk Tryd.underlying26 rfl (Dbl.infoT HL.out) ?_) | (refine wpList_load_rowW rfl 28 (.tmp 7) rfl (w.heap.size + 1 + 1) rfl 28 #[.int .i64 P, .int .i64 I, .int .i64 B] (0, 0) _ T.out.geo Tryd.underlying28 rfl (by kernel_rfl) ?_))
  refine (HRM.out _).mono ?_
  rintro e w5 ⟨rfl, hb⟩
  replace T := Lib.hid (T.out.on' hb)
  replace R1 := R1.on hb
  replace R3 := R3.on hb
  clear hb HRM
  go_wp2_with (first | (refine wpList_load_rowW rfl 23 (.tmp 4) rfl w.heap.size rfl 23 s.c (0, 0) _ T.out.slo Tryd.underlying23 rfl (by kernel_rfl) ?_) | (refine wpList_load_rowW rfl 26 (.tmp 5) rfl (w.heap.size + 1) rfl 26 d.c (0, 0) _ T.out.blk Tryd.underlying26 rfl (Dbl.infoT HL.out) ?_) | (refine wpList_load_rowW rfl 28 (.tmp 7) rfl (w.heap.size + 1 + 1) rfl 28 #[.int .i64 P, .int .i64 I, .int .i64 B] (0, 0) _ T.out.geo Tryd.underlying28 rfl (by kernel_rfl) ?_))
  refine (HEM.out _).mono ?_
  rintro e V ⟨rfl, hb⟩
  replace T := Lib.hid (T.out.on' hb)
  replace R1 := R1.on hb
  replace R3 := R3.on hb
  clear hb HEM
  go_upto_region 9 with (fail)
  cases m1 with
  | true =>
    obtain ⟨rfl, rfl⟩ := G1.out.1 rfl
    have hr1 := Lib.hid (R1 rfl)
    clear R1 G1
    go_wp2_with (first | (refine wpList_load_rowW rfl 23 (.tmp 4) rfl w.heap.size rfl 23 s.c (0, 0) _ T.out.slo Tryd.underlying23 rfl (by kernel_rfl) ?_) | (refine wpList_load_rowW rfl 26 (.tmp 5) rfl (w.heap.size + 1) rfl 26 d.c (0, 0) _ T.out.blk Tryd.underlying26 rfl (Dbl.infoT HL.out) ?_) | (refine wpList_load_rowW rfl 28 (.tmp 7) rfl (w.heap.size + 1 + 1) rfl 28 #[.int .i64 P, .int .i64 I, .int .i64 B] (0, 0) _ T.out.geo Tryd.underlying28 rfl (by kernel_rfl) ?_))
    refine (HRE.out (by trivial) _).mono ?_
    rintro e V9 ⟨g9, rfl, ho, _, hb⟩
    have hS := same_calls A1 (some ⟨g9, 0, none⟩) l l c1 3 V9 (hr1.out.below hb) ho.row (by rw [HLL.out]; decide) (by rw [HLL.out]; decide)
    rw [sameV_self, HLL.out] at hS
    have HS := Lib.hid hS
    replace T := Lib.hid (T.out.on' hb)
    replace R3 := R3.on hb
    rw [HLL.out]
    clear hS hb ho hr1 HRE
    go_wp2_with (fail)
    refine HS.out.mono ?_
    rintro e V10 ⟨rfl, m, rfl⟩
    replace T := Lib.hid (T.out.on' (on_drewN V9 m))
    replace R3 := R3.on (on_drewN V9 m)
    clear HS
    go_upto_region 14 with (fail)
    generalize V9.drewN m = V9 at *
    go_wp2_with (first | (refine wpList_load_rowW rfl 23 (.tmp 4) rfl w.heap.size rfl 23 s.c (0, 0) _ T.out.slo Tryd.underlying23 rfl (by kernel_rfl) ?_) | (refine wpList_load_rowW rfl 26 (.tmp 5) rfl (w.heap.size + 1) rfl 26 d.c (0, 0) _ T.out.blk Tryd.underlying26 rfl (Dbl.infoT HL.out) ?_) | (refine wpList_load_rowW rfl 28 (.tmp 7) rfl (w.heap.size + 1 + 1) rfl 28 #[.int .i64 P, .int .i64 I, .int .i64 B] (0, 0) _ T.out.geo Tryd.underlying28 rfl (by kernel_rfl) ?_))
    by_cases hg : GOK P I B
    · refine (may_yes P I B _ hg).mono ?_
      rintro e w6 ⟨rfl, hb⟩
      replace T := Lib.hid (T.out.on' hb)
      replace R3 := R3.on hb
      clear hb
      obtain ⟨g0, g1, g2⟩ := Gb.cells T.out.geo
      have hlg := Ob.lt T.out.geo
      by_cases h0 : 0 ≤ n
      · by_cases h1 : n ≤ B
        · have hm : m2 = true := by rw [← HM2.out]; unfold nextB; rw [decide_eq_true hg, decide_eq_true ⟨h0, h1⟩]; rfl
          subst hm
          obtain ⟨rfl, rfl⟩ := G2.out.1 rfl
          clear hg G2 HM2
          have hd0 : decide (0 ≤ n) = true := decide_eq_true h0
          have hd1 : decide (n ≤ B) = true := decide_eq_true h1
          clear h0 h1
          go_wp2_with (fail)
          refine (HRH.out (by trivial) _).mono ?_
          rintro e w7 ⟨rfl, rfl⟩
          clear g0 g1 g2 hlg hd0 hd1 HRH
          go_upto_region 19 with (fail)
          go_wp2_with (first | (refine wpList_load_rowW rfl 23 (.tmp 4) rfl w.heap.size rfl 23 s.c (0, 0) _ T.out.slo Tryd.underlying23 rfl (by kernel_rfl) ?_) | (refine wpList_load_rowW rfl 26 (.tmp 5) rfl (w.heap.size + 1) rfl 26 d.c (0, 0) _ T.out.blk Tryd.underlying26 rfl (Dbl.infoT HL.out) ?_) | (refine wpList_load_rowW rfl 28 (.tmp 7) rfl (w.heap.size + 1 + 1) rfl 28 #[.int .i64 P, .int .i64 I, .int .i64 B] (0, 0) _ T.out.geo Tryd.underlying28 rfl (by kernel_rfl) ?_))
          refine (HMB.out _).mono ?_
          rintro e w8 ⟨rfl, hb⟩
          replace T := Lib.hid (T.out.on' hb)
          replace R3 := R3.on hb
          clear hb HMB
          cases m3 with
          | true =>
            obtain ⟨rfl, rfl⟩ := G3.out.1 rfl
            have hr3 := Lib.hid (R3 rfl)
            clear R3 G3
            go_wp2_with (first | (refine wpList_load_rowW rfl 23 (.tmp 4) rfl w.heap.size rfl 23 s.c (0, 0) _ T.out.slo Tryd.underlying23 rfl (by kernel_rfl) ?_) | (refine wpList_load_rowW rfl 26 (.tmp 5) rfl (w.heap.size + 1) rfl 26 d.c (0, 0) _ T.out.blk Tryd.underlying26 rfl (Dbl.infoT HL.out) ?_) | (refine wpList_load_rowW rfl 28 (.tmp 7) rfl (w.heap.size + 1 + 1) rfl 28 #[.int .i64 P, .int .i64 I, .int .i64 B] (0, 0) _ T.out.geo Tryd.underlying28 rfl (by kernel_rfl) ?_))
            refine (HRB.out (by trivial) _).mono ?_
            rintro e w9 ⟨g9, c9, rfl, ho, _, hb⟩
            have hS := same_calls A3 (some ⟨g9, 0, none⟩) q q c3 c9 w9 (hr3.out.below hb) (row_own ho) (by rw [HQL.out]; decide) (by rw [HQL.out]; decide)
            rw [sameV_self, HQL.out] at hS
            have HS := Lib.hid hS
            replace T := Lib.hid (T.out.on' hb)
            rw [HQL.out]
            clear hS hb ho hr3
            go_wp2_with (fail)
            refine HS.out.mono ?_
            rintro e w10 ⟨rfl, m, rfl⟩
            have b10 := T.out.on.trans (on_drewN w9 m)
            clear HS T
            go_wp2_with (fail)
            refine (alive_calls _ (HT.out.below b10) (HE.out.below b10)).mono ?_
            rintro e w11 ⟨rfl, hb⟩
            have b11 := b10.trans hb
            clear b10 hb
            go_wp2_with (fail)
            go_ret
            exact ⟨rfl, b11⟩
          | false =>
            obtain ⟨rfl, rfl⟩ := G3.out.2.1 rfl
            clear R3 G3
            go_wp2_with (fail)
            refine (alive_calls _ (HT.out.below T.out.on) (HE.out.below T.out.on)).mono ?_
            rintro e w11 ⟨rfl, hb⟩
            have b11 := T.out.on.trans hb
            clear T hb
            go_wp2_with (fail)
            go_ret
            exact ⟨rfl, b11⟩
        · have hm : m2 = false := by rw [← HM2.out]; unfold nextB; rw [decide_eq_false (fun h => h1 h.2 : ¬ (0 ≤ n ∧ n ≤ B)), Bool.and_false]
          subst hm
          obtain ⟨rfl, rfl⟩ := G2.out.2 rfl
          clear hg G2 HM2
          have hd0 : decide (0 ≤ n) = true := decide_eq_true h0
          have hd1 : decide (n ≤ B) = false := decide_eq_false h1
          clear h0 h1
          go_upto_region 19 with (fail)
          clear g0 g1 g2 hlg hd0 hd1 HRH
          go_wp2_with (first | (refine wpList_load_rowW rfl 23 (.tmp 4) rfl w.heap.size rfl 23 s.c (0, 0) _ T.out.slo Tryd.underlying23 rfl (by kernel_rfl) ?_) | (refine wpList_load_rowW rfl 26 (.tmp 5) rfl (w.heap.size + 1) rfl 26 d.c (0, 0) _ T.out.blk Tryd.underlying26 rfl (Dbl.infoT HL.out) ?_) | (refine wpList_load_rowW rfl 28 (.tmp 7) rfl (w.heap.size + 1 + 1) rfl 28 #[.int .i64 P, .int .i64 I, .int .i64 B] (0, 0) _ T.out.geo Tryd.underlying28 rfl (by kernel_rfl) ?_))
          refine (HMB.out _).mono ?_
          rintro e w8 ⟨rfl, hb⟩
          replace T := Lib.hid (T.out.on' hb)
          replace R3 := R3.on hb
          clear hb HMB
          cases m3 with
          | true =>
            obtain ⟨rfl, rfl⟩ := G3.out.1 rfl
            have hr3 := Lib.hid (R3 rfl)
            clear R3 G3
            go_wp2_with (first | (refine wpList_load_rowW rfl 23 (.tmp 4) rfl w.heap.size rfl 23 s.c (0, 0) _ T.out.slo Tryd.underlying23 rfl (by kernel_rfl) ?_) | (refine wpList_load_rowW rfl 26 (.tmp 5) rfl (w.heap.size + 1) rfl 26 d.c (0, 0) _ T.out.blk Tryd.underlying26 rfl (Dbl.infoT HL.out) ?_) | (refine wpList_load_rowW rfl 28 (.tmp 7) rfl (w.heap.size + 1 + 1) rfl 28 #[.int .i64 P, .int .i64 I, .int .i64 B] (0, 0) _ T.out.geo Tryd.underlying28 rfl (by kernel_rfl) ?_))
            refine (HRB.out (by trivial) _).mono ?_
            rintro e w9 ⟨g9, c9, rfl, ho, _, hb⟩
            have hS := same_calls A3 (some ⟨g9, 0, none⟩) q q c3 c9 w9 (hr3.out.below hb) (row_own ho) (by rw [HQL.out]; decide) (by rw [HQL.out]; decide)
            rw [sameV_self, HQL.out] at hS
            have HS := Lib.hid hS
            replace T := Lib.hid (T.out.on' hb)
            rw [HQL.out]
            clear hS hb ho hr3
            go_wp2_with (fail)
            refine HS.out.mono ?_
            rintro e w10 ⟨rfl, m, rfl⟩
            have b10 := T.out.on.trans (on_drewN w9 m)
            clear HS T
            go_wp2_with (fail)
            refine (alive_calls _ (HT.out.below b10) (HE.out.below b10)).mono ?_
            rintro e w11 ⟨rfl, hb⟩
            have b11 := b10.trans hb
            clear b10 hb
            go_wp2_with (fail)
            go_ret
            exact ⟨rfl, b11⟩
          | false =>
            obtain ⟨rfl, rfl⟩ := G3.out.2.1 rfl
            clear R3 G3
            go_wp2_with (fail)
            refine (alive_calls _ (HT.out.below T.out.on) (HE.out.below T.out.on)).mono ?_
            rintro e w11 ⟨rfl, hb⟩
            have b11 := T.out.on.trans hb
            clear T hb
            go_wp2_with (fail)
            go_ret
            exact ⟨rfl, b11⟩
      · have hm : m2 = false := by rw [← HM2.out]; unfold nextB; rw [decide_eq_false (fun h => h0 h.1 : ¬ (0 ≤ n ∧ n ≤ B)), Bool.and_false]
        subst hm
        obtain ⟨rfl, rfl⟩ := G2.out.2 rfl
        clear hg G2 HM2
        have hd0 : decide (0 ≤ n) = false := decide_eq_false h0
        clear h0
        go_upto_region 19 with (fail)
        clear g0 g1 g2 hlg hd0 HRH
        go_wp2_with (first | (refine wpList_load_rowW rfl 23 (.tmp 4) rfl w.heap.size rfl 23 s.c (0, 0) _ T.out.slo Tryd.underlying23 rfl (by kernel_rfl) ?_) | (refine wpList_load_rowW rfl 26 (.tmp 5) rfl (w.heap.size + 1) rfl 26 d.c (0, 0) _ T.out.blk Tryd.underlying26 rfl (Dbl.infoT HL.out) ?_) | (refine wpList_load_rowW rfl 28 (.tmp 7) rfl (w.heap.size + 1 + 1) rfl 28 #[.int .i64 P, .int .i64 I, .int .i64 B] (0, 0) _ T.out.geo Tryd.underlying28 rfl (by kernel_rfl) ?_))
        refine (HMB.out _).mono ?_
        rintro e w8 ⟨rfl, hb⟩
        replace T := Lib.hid (T.out.on' hb)
        replace R3 := R3.on hb
        clear hb HMB
        cases m3 with
        | true =>
          obtain ⟨rfl, rfl⟩ := G3.out.1 rfl
          have hr3 := Lib.hid (R3 rfl)
          clear R3 G3
          go_wp2_with (first | (refine wpList_load_rowW rfl 23 (.tmp 4) rfl w.heap.size rfl 23 s.c (0, 0) _ T.out.slo Tryd.underlying23 rfl (by kernel_rfl) ?_) | (refine wpList_load_rowW rfl 26 (.tmp 5) rfl (w.heap.size + 1) rfl 26 d.c (0, 0) _ T.out.blk Tryd.underlying26 rfl (Dbl.infoT HL.out) ?_) | (refine wpList_load_rowW rfl 28 (.tmp 7) rfl (w.heap.size + 1 + 1) rfl 28 #[.int .i64 P, .int .i64 I, .int .i64 B] (0, 0) _ T.out.geo Tryd.underlying28 rfl (by kernel_rfl) ?_))
          refine (HRB.out (by trivial) _).mono ?_
          rintro e w9 ⟨g9, c9, rfl, ho, _, hb⟩
          have hS := same_calls A3 (some ⟨g9, 0, none⟩) q q c3 c9 w9 (hr3.out.below hb) (row_own ho) (by rw [HQL.out]; decide) (by rw [HQL.out]; decide)
          rw [sameV_self, HQL.out] at hS
          have HS := Lib.hid hS
          replace T := Lib.hid (T.out.on' hb)
          rw [HQL.out]
          clear hS hb ho hr3
          go_wp2_with (fail)
          refine HS.out.mono ?_
          rintro e w10 ⟨rfl, m, rfl⟩
          have b10 := T.out.on.trans (on_drewN w9 m)
          clear HS T
          go_wp2_with (fail)
          refine (alive_calls _ (HT.out.below b10) (HE.out.below b10)).mono ?_
          rintro e w11 ⟨rfl, hb⟩
          have b11 := b10.trans hb
          clear b10 hb
          go_wp2_with (fail)
          go_ret
          exact ⟨rfl, b11⟩
        | false =>
          obtain ⟨rfl, rfl⟩ := G3.out.2.1 rfl
          clear R3 G3
          go_wp2_with (fail)
          refine (alive_calls _ (HT.out.below T.out.on) (HE.out.below T.out.on)).mono ?_
          rintro e w11 ⟨rfl, hb⟩
          have b11 := T.out.on.trans hb
          clear T hb
          go_wp2_with (fail)
          go_ret
          exact ⟨rfl, b11⟩
    · have hm : m2 = false := by rw [← HM2.out]; unfold nextB; rw [decide_eq_false hg]; rfl
      subst hm
      obtain ⟨rfl, rfl⟩ := G2.out.2 rfl
      refine (may_no P I B _ hg).mono ?_
      rintro e w6 ⟨rfl, hb⟩
      replace T := Lib.hid (T.out.on' hb)
      replace R3 := R3.on hb
      clear hb hg G2 HM2 HRH
      go_upto_region 19 with (fail)
      go_wp2_with (first | (refine wpList_load_rowW rfl 23 (.tmp 4) rfl w.heap.size rfl 23 s.c (0, 0) _ T.out.slo Tryd.underlying23 rfl (by kernel_rfl) ?_) | (refine wpList_load_rowW rfl 26 (.tmp 5) rfl (w.heap.size + 1) rfl 26 d.c (0, 0) _ T.out.blk Tryd.underlying26 rfl (Dbl.infoT HL.out) ?_) | (refine wpList_load_rowW rfl 28 (.tmp 7) rfl (w.heap.size + 1 + 1) rfl 28 #[.int .i64 P, .int .i64 I, .int .i64 B] (0, 0) _ T.out.geo Tryd.underlying28 rfl (by kernel_rfl) ?_))
      refine (HMB.out _).mono ?_
      rintro e w8 ⟨rfl, hb⟩
      replace T := Lib.hid (T.out.on' hb)
      replace R3 := R3.on hb
      clear hb HMB
      cases m3 with
      | true =>
        obtain ⟨rfl, rfl⟩ := G3.out.1 rfl
        have hr3 := Lib.hid (R3 rfl)
        clear R3 G3
        go_wp2_with (first | (refine wpList_load_rowW rfl 23 (.tmp 4) rfl w.heap.size rfl 23 s.c (0, 0) _ T.out.slo Tryd.underlying23 rfl (by kernel_rfl) ?_) | (refine wpList_load_rowW rfl 26 (.tmp 5) rfl (w.heap.size + 1) rfl 26 d.c (0, 0) _ T.out.blk Tryd.underlying26 rfl (Dbl.infoT HL.out) ?_) | (refine wpList_load_rowW rfl 28 (.tmp 7) rfl (w.heap.size + 1 + 1) rfl 28 #[.int .i64 P, .int .i64 I, .int .i64 B] (0, 0) _ T.out.geo Tryd.underlying28 rfl (by kernel_rfl) ?_))
        refine (HRB.out (by trivial) _).mono ?_
        rintro e w9 ⟨g9, c9, rfl, ho, _, hb⟩
        have hS := same_calls A3 (some ⟨g9, 0, none⟩) q q c3 c9 w9 (hr3.out.below hb) (row_own ho) (by rw [HQL.out]; decide) (by rw [HQL.out]; decide)
        rw [sameV_self, HQL.out] at hS
        have HS := Lib.hid hS
        replace T := Lib.hid (T.out.on' hb)
        rw [HQL.out]
        clear hS hb ho hr3
        go_wp2_with (fail)
        refine HS.out.mono ?_
        rintro e w10 ⟨rfl, m, rfl⟩
        have b10 := T.out.on.trans (on_drewN w9 m)
        clear HS T
        go_wp2_with (fail)
        refine (alive_calls _ (HT.out.below b10) (HE.out.below b10)).mono ?_
        rintro e w11 ⟨rfl, hb⟩
        have b11 := b10.trans hb
        clear b10 hb
        go_wp2_with (fail)
        go_ret
        exact ⟨rfl, b11⟩
      | false =>
        obtain ⟨rfl, rfl⟩ := G3.out.2.1 rfl
        clear R3 G3
        go_wp2_with (fail)
        refine (alive_calls _ (HT.out.below T.out.on) (HE.out.below T.out.on)).mono ?_
        rintro e w11 ⟨rfl, hb⟩
        have b11 := T.out.on.trans hb
        clear T hb
        go_wp2_with (fail)
        go_ret
        exact ⟨rfl, b11⟩
  | false =>
    obtain ⟨rfl, rfl⟩ := G1.out.2.1 rfl
    clear R1 G1 HRE
    go_upto_region 14 with (fail)
    go_wp2_with (first | (refine wpList_load_rowW rfl 23 (.tmp 4) rfl w.heap.size rfl 23 s.c (0, 0) _ T.out.slo Tryd.underlying23 rfl (by kernel_rfl) ?_) | (refine wpList_load_rowW rfl 26 (.tmp 5) rfl (w.heap.size + 1) rfl 26 d.c (0, 0) _ T.out.blk Tryd.underlying26 rfl (Dbl.infoT HL.out) ?_) | (refine wpList_load_rowW rfl 28 (.tmp 7) rfl (w.heap.size + 1 + 1) rfl 28 #[.int .i64 P, .int .i64 I, .int .i64 B] (0, 0) _ T.out.geo Tryd.underlying28 rfl (by kernel_rfl) ?_))
    by_cases hg : GOK P I B
    · refine (may_yes P I B _ hg).mono ?_
      rintro e w6 ⟨rfl, hb⟩
      replace T := Lib.hid (T.out.on' hb)
      replace R3 := R3.on hb
      clear hb
      obtain ⟨g0, g1, g2⟩ := Gb.cells T.out.geo
      have hlg := Ob.lt T.out.geo
      by_cases h0 : 0 ≤ n
      · by_cases h1 : n ≤ B
        · have hm : m2 = true := by rw [← HM2.out]; unfold nextB; rw [decide_eq_true hg, decide_eq_true ⟨h0, h1⟩]; rfl
          subst hm
          obtain ⟨rfl, rfl⟩ := G2.out.1 rfl
          clear hg G2 HM2
          have hd0 : decide (0 ≤ n) = true := decide_eq_true h0
          have hd1 : decide (n ≤ B) = true := decide_eq_true h1
          clear h0 h1
          go_wp2_with (fail)
          refine (HRH.out (by trivial) _).mono ?_
          rintro e w7 ⟨rfl, rfl⟩
          clear g0 g1 g2 hlg hd0 hd1 HRH
          go_upto_region 19 with (fail)
          go_wp2_with (first | (refine wpList_load_rowW rfl 23 (.tmp 4) rfl w.heap.size rfl 23 s.c (0, 0) _ T.out.slo Tryd.underlying23 rfl (by kernel_rfl) ?_) | (refine wpList_load_rowW rfl 26 (.tmp 5) rfl (w.heap.size + 1) rfl 26 d.c (0, 0) _ T.out.blk Tryd.underlying26 rfl (Dbl.infoT HL.out) ?_) | (refine wpList_load_rowW rfl 28 (.tmp 7) rfl (w.heap.size + 1 + 1) rfl 28 #[.int .i64 P, .int .i64 I, .int .i64 B] (0, 0) _ T.out.geo Tryd.underlying28 rfl (by kernel_rfl) ?_))
          refine (HMB.out _).mono ?_
          rintro e w8 ⟨rfl, hb⟩
          replace T := Lib.hid (T.out.on' hb)
          replace R3 := R3.on hb
          clear hb HMB
          cases m3 with
          | true =>
            obtain ⟨rfl, rfl⟩ := G3.out.1 rfl
            have hr3 := Lib.hid (R3 rfl)
            clear R3 G3
            go_wp2_with (first | (refine wpList_load_rowW rfl 23 (.tmp 4) rfl w.heap.size rfl 23 s.c (0, 0) _ T.out.slo Tryd.underlying23 rfl (by kernel_rfl) ?_) | (refine wpList_load_rowW rfl 26 (.tmp 5) rfl (w.heap.size + 1) rfl 26 d.c (0, 0) _ T.out.blk Tryd.underlying26 rfl (Dbl.infoT HL.out) ?_) | (refine wpList_load_rowW rfl 28 (.tmp 7) rfl (w.heap.size + 1 + 1) rfl 28 #[.int .i64 P, .int .i64 I, .int .i64 B] (0, 0) _ T.out.geo Tryd.underlying28 rfl (by kernel_rfl) ?_))
            refine (HRB.out (by trivial) _).mono ?_
            rintro e w9 ⟨g9, c9, rfl, ho, _, hb⟩
            have hS := same_calls A3 (some ⟨g9, 0, none⟩) q q c3 c9 w9 (hr3.out.below hb) (row_own ho) (by rw [HQL.out]; decide) (by rw [HQL.out]; decide)
            rw [sameV_self, HQL.out] at hS
            have HS := Lib.hid hS
            replace T := Lib.hid (T.out.on' hb)
            rw [HQL.out]
            clear hS hb ho hr3
            go_wp2_with (fail)
            refine HS.out.mono ?_
            rintro e w10 ⟨rfl, m, rfl⟩
            have b10 := T.out.on.trans (on_drewN w9 m)
            clear HS T
            go_wp2_with (fail)
            refine (alive_calls _ (HT.out.below b10) (HE.out.below b10)).mono ?_
            rintro e w11 ⟨rfl, hb⟩
            have b11 := b10.trans hb
            clear b10 hb
            go_wp2_with (fail)
            go_ret
            exact ⟨rfl, b11⟩
          | false =>
            obtain ⟨rfl, rfl⟩ := G3.out.2.1 rfl
            clear R3 G3
            go_wp2_with (fail)
            refine (alive_calls _ (HT.out.below T.out.on) (HE.out.below T.out.on)).mono ?_
            rintro e w11 ⟨rfl, hb⟩
            have b11 := T.out.on.trans hb
            clear T hb
            go_wp2_with (fail)
            go_ret
            exact ⟨rfl, b11⟩
        · have hm : m2 = false := by rw [← HM2.out]; unfold nextB; rw [decide_eq_false (fun h => h1 h.2 : ¬ (0 ≤ n ∧ n ≤ B)), Bool.and_false]
          subst hm
          obtain ⟨rfl, rfl⟩ := G2.out.2 rfl
          clear hg G2 HM2
          have hd0 : decide (0 ≤ n) = true := decide_eq_true h0
          have hd1 : decide (n ≤ B) = false := decide_eq_false h1
          clear h0 h1
          go_upto_region 19 with (fail)
          clear g0 g1 g2 hlg hd0 hd1 HRH
          go_wp2_with (first | (refine wpList_load_rowW rfl 23 (.tmp 4) rfl w.heap.size rfl 23 s.c (0, 0) _ T.out.slo Tryd.underlying23 rfl (by kernel_rfl) ?_) | (refine wpList_load_rowW rfl 26 (.tmp 5) rfl (w.heap.size + 1) rfl 26 d.c (0, 0) _ T.out.blk Tryd.underlying26 rfl (Dbl.infoT HL.out) ?_) | (refine wpList_load_rowW rfl 28 (.tmp 7) rfl (w.heap.size + 1 + 1) rfl 28 #[.int .i64 P, .int .i64 I, .int .i64 B] (0, 0) _ T.out.geo Tryd.underlying28 rfl (by kernel_rfl) ?_))
          refine (HMB.out _).mono ?_
          rintro e w8 ⟨rfl, hb⟩
          replace T := Lib.hid (T.out.on' hb)
          replace R3 := R3.on hb
          clear hb HMB
          cases m3 with
          | true =>
            obtain ⟨rfl, rfl⟩ := G3.out.1 rfl
            have hr3 := Lib.hid (R3 rfl)
            clear R3 G3
            go_wp2_with (first | (refine wpList_load_rowW rfl 23 (.tmp 4) rfl w.heap.size rfl 23 s.c (0, 0) _ T.out.slo Tryd.underlying23 rfl (by kernel_rfl) ?_) | (refine wpList_load_rowW rfl 26 (.tmp 5) rfl (w.heap.size + 1) rfl 26 d.c (0, 0) _ T.out.blk Tryd.underlying26 rfl (Dbl.infoT HL.out) ?_) | (refine wpList_load_rowW rfl 28 (.tmp 7) rfl (w.heap.size + 1 + 1) rfl 28 #[.int .i64 P, .int .i64 I, .int .i64 B] (0, 0) _ T.out.geo Tryd.underlying28 rfl (by kernel_rfl) ?_))
            refine (HRB.out (by trivial) _).mono ?_
            rintro e w9 ⟨g9, c9, rfl, ho, _, hb⟩
            have hS := same_calls A3 (some ⟨g9, 0, none⟩) q q c3 c9 w9 (hr3.out.below hb) (row_own ho) (by rw [HQL.out]; decide) (by rw [HQL.out]; decide)
            rw [sameV_self, HQL.out] at hS
            have HS := Lib.hid hS
            replace T := Lib.hid (T.out.on' hb)
            rw [HQL.out]
            clear hS hb ho hr3
            go_wp2_with (fail)
            refine HS.out.mono ?_
            rintro e w10 ⟨rfl, m, rfl⟩
            have b10 := T.out.on.trans (on_drewN w9 m)
            clear HS T
            go_wp2_with (fail)
            refine (alive_calls _ (HT.out.below b10) (HE.out.below b10)).mono ?_
            rintro e w11 ⟨rfl, hb⟩
            have b11 := b10.trans hb
            clear b10 hb
            go_wp2_with (fail)
            go_ret
            exact ⟨rfl, b11⟩
          | false =>
            obtain ⟨rfl, rfl⟩ := G3.out.2.1 rfl
            clear R3 G3
            go_wp2_with (fail)
            refine (alive_calls _ (HT.out.below T.out.on) (HE.out.below T.out.on)).mono ?_
            rintro e w11 ⟨rfl, hb⟩
            have b11 := T.out.on.trans hb
            clear T hb
            go_wp2_with (fail)
            go_ret
            exact ⟨rfl, b11⟩
      · have hm : m2 = false := by rw [← HM2.out]; unfold nextB; rw [decide_eq_false (fun h => h0 h.1 : ¬ (0 ≤ n ∧ n ≤ B)), Bool.and_false]
        subst hm
        obtain ⟨rfl, rfl⟩ := G2.out.2 rfl
        clear hg G2 HM2
        have hd0 : decide (0 ≤ n) = false := decide_eq_false h0
        clear h0
        go_upto_region 19 with (fail)
        clear g0 g1 g2 hlg hd0 HRH
        go_wp2_with (first | (refine wpList_load_rowW rfl 23 (.tmp 4) rfl w.heap.size rfl 23 s.c (0, 0) _ T.out.slo Tryd.underlying23 rfl (by kernel_rfl) ?_) | (refine wpList_load_rowW rfl 26 (.tmp 5) rfl (w.heap.size + 1) rfl 26 d.c (0, 0) _ T.out.blk Tryd.underlying26 rfl (Dbl.infoT HL.out) ?_) | (refine wpList_load_rowW rfl 28 (.tmp 7) rfl (w.heap.size + 1 + 1) rfl 28 #[.int .i64 P, .int .i64 I, .int .i64 B] (0, 0) _ T.out.geo Tryd.underlying28 rfl (by kernel_rfl) ?_))
        refine (HMB.out _).mono ?_
        rintro e w8 ⟨rfl, hb⟩
        replace T := Lib.hid (T.out.on' hb)
        replace R3 := R3.on hb
        clear hb HMB
        cases m3 with
        | true =>
          obtain ⟨rfl, rfl⟩ := G3.out.1 rfl
          have hr3 := Lib.hid (R3 rfl)
          clear R3 G3
          go_wp2_with (first | (refine wpList_load_rowW rfl 23 (.tmp 4) rfl w.heap.size rfl 23 s.c (0, 0) _ T.out.slo Tryd.underlying23 rfl (by kernel_rfl) ?_) | (refine wpList_load_rowW rfl 26 (.tmp 5) rfl (w.heap.size + 1) rfl 26 d.c (0, 0) _ T.out.blk Tryd.underlying26 rfl (Dbl.infoT HL.out) ?_) | (refine wpList_load_rowW rfl 28 (.tmp 7) rfl (w.heap.size + 1 + 1) rfl 28 #[.int .i64 P, .int .i64 I, .int .i64 B] (0, 0) _ T.out.geo Tryd.underlying28 rfl (by kernel_rfl) ?_))
          refine (HRB.out (by trivial) _).mono ?_
          rintro e w9 ⟨g9, c9, rfl, ho, _, hb⟩
          have hS := same_calls A3 (some ⟨g9, 0, none⟩) q q c3 c9 w9 (hr3.out.below hb) (row_own ho) (by rw [HQL.out]; decide) (by rw [HQL.out]; decide)
          rw [sameV_self, HQL.out] at hS
          have HS := Lib.hid hS
          replace T := Lib.hid (T.out.on' hb)
          rw [HQL.out]
          clear hS hb ho hr3
          go_wp2_with (fail)
          refine HS.out.mono ?_
          rintro e w10 ⟨rfl, m, rfl⟩
          have b10 := T.out.on.trans (on_drewN w9 m)
          clear HS T
          go_wp2_with (fail)
          refine (alive_calls _ (HT.out.below b10) (HE.out.below b10)).mono ?_
          rintro e w11 ⟨rfl, hb⟩
          have b11 := b10.trans hb
          clear b10 hb
          go_wp2_with (fail)
          go_ret
          exact ⟨rfl, b11⟩
        | false =>
          obtain ⟨rfl, rfl⟩ := G3.out.2.1 rfl
          clear R3 G3
          go_wp2_with (fail)
          refine (alive_calls _ (HT.out.below T.out.on) (HE.out.below T.out.on)).mono ?_
          rintro e w11 ⟨rfl, hb⟩
          have b11 := T.out.on.trans hb
          clear T hb
          go_wp2_with (fail)
          go_ret
          exact ⟨rfl, b11⟩
    · have hm : m2 = false := by rw [← HM2.out]; unfold nextB; rw [decide_eq_false hg]; rfl
      subst hm
      obtain ⟨rfl, rfl⟩ := G2.out.2 rfl
      refine (may_no P I B _ hg).mono ?_
      rintro e w6 ⟨rfl, hb⟩
      replace T := Lib.hid (T.out.on' hb)
      replace R3 := R3.on hb
      clear hb hg G2 HM2 HRH
      go_upto_region 19 with (fail)
      go_wp2_with (first | (refine wpList_load_rowW rfl 23 (.tmp 4) rfl w.heap.size rfl 23 s.c (0, 0) _ T.out.slo Tryd.underlying23 rfl (by kernel_rfl) ?_) | (refine wpList_load_rowW rfl 26 (.tmp 5) rfl (w.heap.size + 1) rfl 26 d.c (0, 0) _ T.out.blk Tryd.underlying26 rfl (Dbl.infoT HL.out) ?_) | (refine wpList_load_rowW rfl 28 (.tmp 7) rfl (w.heap.size + 1 + 1) rfl 28 #[.int .i64 P, .int .i64 I, .int .i64 B] (0, 0) _ T.out.geo Tryd.underlying28 rfl (by kernel_rfl) ?_))
      refine (HMB.out _).mono ?_
      rintro e w8 ⟨rfl, hb⟩
      replace T := Lib.hid (T.out.on' hb)
      replace R3 := R3.on hb
      clear hb HMB
      cases m3 with
      | true =>
        obtain ⟨rfl, rfl⟩ := G3.out.1 rfl
        have hr3 := Lib.hid (R3 rfl)
        clear R3 G3
        go_wp2_with (first | (refine wpList_load_rowW rfl 23 (.tmp 4) rfl w.heap.size rfl 23 s.c (0, 0) _ T.out.slo Tryd.underlying23 rfl (by kernel_rfl) ?_) | (refine wpList_load_rowW rfl 26 (.tmp 5) rfl (w.heap.size + 1) rfl 26 d.c (0, 0) _ T.out.blk Tryd.underlying26 rfl (Dbl.infoT HL.out) ?_) | (refine wpList_load_rowW rfl 28 (.tmp 7) rfl (w.heap.size + 1 + 1) rfl 28 #[.int .i64 P, .int .i64 I, .int .i64 B] (0, 0) _ T.out.geo Tryd.underlying28 rfl (by kernel_rfl) ?_))
        refine (HRB.out (by trivial) _).mono ?_
        rintro e w9 ⟨g9, c9, rfl, ho, _, hb⟩
        have hS := same_calls A3 (some ⟨g9, 0, none⟩) q q c3 c9 w9 (hr3.out.below hb) (row_own ho) (by rw [HQL.out]; decide) (by rw [HQL.out]; decide)
        rw [sameV_self, HQL.out] at hS
        have HS := Lib.hid hS
        replace T := Lib.hid (T.out.on' hb)
        rw [HQL.out]
        clear hS hb ho hr3
        go_wp2_with (fail)
        refine HS.out.mono ?_
        rintro e w10 ⟨rfl, m, rfl⟩
        have b10 := T.out.on.trans (on_drewN w9 m)
        clear HS T
        go_wp2_with (fail)
        refine (alive_calls _ (HT.out.below b10) (HE.out.below b10)).mono ?_
        rintro e w11 ⟨rfl, hb⟩
        have b11 := b10.trans hb
        clear b10 hb
        go_wp2_with (fail)
        go_ret
        exact ⟨rfl, b11⟩
      | false =>
        obtain ⟨rfl, rfl⟩ := G3.out.2.1 rfl
        clear R3 G3
        go_wp2_with (fail)
        refine (alive_calls _ (HT.out.below T.out.on) (HE.out.below T.out.on)).mono ?_
        rintro e w11 ⟨rfl, hb⟩
        have b11 := T.out.on.trans hb
        clear T hb
        go_wp2_with (fail)
        go_ret
        exact ⟨rfl, b11⟩
theorem ewrites_calls (s : Slt) (d : Dbl) (n P I B : Int) (w : World) (hL : d.L.length = 10) (hT : TabAt w) (hE : ErrAt w) :
    Calls Tryd.prog 3 #[s.v, d.v, .int .i64 n, gv P I B] w fun e w' => e = .returned (.bool true) ∧ On w w' := by
  by_cases hs : 200 < s.S.size
  · exact ewrites_long s d n P I B w hL (.inl hs) hT hE
  cases hl : longD d with
  | true => exact ewrites_long s d n P I B w hL (.inr hl) hT hE
  | false => exact ewrites_go s d n P I B w hL (by omega) hl hT hE
end Go.Proofs.YtipghcpodhokbaaDoor
