/- EntryOne: whatever it is called with, it hands back true; nothing that was there has turned. -/
import Derived.Test.YtipghcpodhokbaaDoorLaw5
set_option linter.unusedSimpArgs false
set_option linter.unusedVariables false
namespace Go.Proofs.YtipghcpodhokbaaDoor
open Go.RowKit WordMath SumMath
/-- A directory block's block, a slot's, a geometry's, one behind another. -/
structure On3 (w0 w : World) (d : Dbl) (s : Slt) (P I B : Int) : Prop where
  on : On w0 w
  blk : Db w w0.heap.size d
  slo : Sb w (w0.heap.size + 1) s
  geo : Gb w (w0.heap.size + 1 + 1) P I B
theorem On3.on' {w0 w w' : World} {d : Dbl} {s : Slt} {P I B : Int} (h : On3 w0 w d s P I B) (hb : On w w') : On3 w0 w' d s P I B := ⟨h.on.trans hb, Ob.on h.blk hb, Ob.on h.slo hb, Ob.on h.geo hb⟩
theorem On3.new (w : World) (d : Dbl) (s : Slt) (P I B : Int) : On3 w (((w.alloc (.cells d.c 26)).alloc (.cells s.c 23)).alloc (.cells #[.int .i64 P, .int .i64 I, .int .i64 B] 28)) d s P I B := by
  refine ⟨(on_two _ _ _).trans (on_alloc _ _), ((Ob.new w _).alloc _).alloc _, ?_, ?_⟩
  · have h := Ob.new (w.alloc (.cells d.c 26)) (.cells s.c 23)
    rw [World.size_alloc] at h
    exact h.alloc _
  · have h := Ob.new ((w.alloc (.cells d.c 26)).alloc (.cells s.c 23)) (.cells #[.int .i64 P, .int .i64 I, .int .i64 B] 28)
    rw [World.size_alloc, World.size_alloc] at h
    exact h
theorem On3.set {w0 w : World} {d : Dbl} {s : Slt} {P I B : Int} (h : On3 w0 w d s P I B) {cb : Nat} (hc : w0.heap.size + 1 + 1 < cb) (o : Nat) (v : Value) : On3 w0 (w.setCell ⟨cb, o, none⟩ v) d s P I B :=
  ⟨Below.setCell h.on (show w0.heap.size ≤ cb by omega) v, Ob.setCell h.blk _ _ (show w0.heap.size ≠ cb by omega), Ob.setCell h.slo _ _ (show w0.heap.size + 1 ≠ cb by omega), Ob.setCell h.geo _ _ (show w0.heap.size + 1 + 1 ≠ cb by omega)⟩
theorem On3.set3 {w0 w : World} {d : Dbl} {s : Slt} {P I B : Int} (h : On3 w0 w d s P I B) {cb : Nat} (hc : w0.heap.size + 1 + 1 < cb) (k : Nat) (x : Slt) : On3 w0 (((w.setCell ⟨cb, 1 + k * 3, none⟩ (.int .i64 x.I)).setCell ⟨cb, 1 + k * 3 + 1, none⟩ (.int .u8 x.K)).setCell ⟨cb, 1 + k * 3 + 2, none⟩ (.string x.S)) d s P I B :=
  ((h.set hc _ _).set hc _ _).set hc _ _
/-- .. and a copy's. -/
structure One (w0 w : World) (d : Dbl) (s : Slt) (P I B : Int) (cb : Nat) (c : Dbl) : Prop extends On3 w0 w d s P I B where
  cpy : Db w cb c
theorem One.on' {w0 w w' : World} {d : Dbl} {s : Slt} {P I B : Int} {cb : Nat} {c : Dbl} (h : One w0 w d s P I B cb c) (hb : On w w') : One w0 w' d s P I B cb c := ⟨h.toOn3.on' hb, Ob.on h.cpy hb⟩
set_option maxRecDepth 100000 in
set_option maxHeartbeats 2000000 in
theorem eone_long (d : Dbl) (s : Slt) (p next P I B : Int) (w : World) (hL : d.L.length = 10) (hl : longD d = true ∨ 200 < s.S.size) (hT : TabAt w) (hE : ErrAt w) :
    Calls Tryd.prog 7 #[d.v, s.v, .int .u8 p, .int .i64 next, gv P I B] w fun e w' => e = .returned (.bool true) ∧ On w w' := by
  have T := Lib.hid (On3.new w d s P I B)
  have HT := Lib.hid hT
  have HE := Lib.hid hE
  have HL := Lib.hid hL
  have hlong := fun W => long_calls d W hL
  generalize hlv : longD d = lv at *
  have HLO := Lib.hid hlong
  clear hT hE hL hlong hlv
  go_enter Tryd.func7, Tryd.ntmps7
  go_upto_region 1 with (fail)
  generalize ((w.alloc (.cells d.c 26)).alloc (.cells s.c 23)).alloc (.cells #[.int .i64 P, .int .i64 I, .int .i64 B] 28) = W at *
  go_wp2_with (first | (refine wpList_load_rowW rfl 26 (.tmp 5) rfl w.heap.size rfl 26 d.c (0, 0) _ T.out.blk Tryd.underlying26 rfl (Dbl.infoT HL.out) ?_) | (refine wpList_load_rowW rfl 23 (.tmp 6) rfl (w.heap.size + 1) rfl 23 s.c (0, 0) _ T.out.slo Tryd.underlying23 rfl (by kernel_rfl) ?_) | (refine wpList_load_rowW rfl 28 (.tmp 9) rfl (w.heap.size + 1 + 1) rfl 28 #[.int .i64 P, .int .i64 I, .int .i64 B] (0, 0) _ T.out.geo Tryd.underlying28 rfl (by kernel_rfl) ?_))
  refine (HLO.out _).mono ?_
  rintro e w1 ⟨rfl, hb⟩
  replace T := Lib.hid (T.out.on' hb)
  clear hb HLO
  cases lv with
  | true =>
    clear hl
    go_wp2_with (fail)
    refine (alive_calls _ (HT.out.below T.out.on) (HE.out.below T.out.on)).mono ?_
    rintro e u9 ⟨rfl, hb⟩
    have b9 := T.out.on.trans hb
    clear T hb
    go_wp2_with (fail)
    go_ret
    exact ⟨rfl, b9⟩
  | false =>
    obtain ⟨s0, s1, s2⟩ := Sb.cells T.out.slo
    have hls := Ob.lt T.out.slo
    have hd : decide (200 < (s.S.size : Int)) = true := decide_eq_true (by
      rcases hl with h | h
      · cases h
      · omega)
    clear hl
    go_wp2_with (fail)
    clear s0 s1 s2 hls hd
    refine (alive_calls _ (HT.out.below T.out.on) (HE.out.below T.out.on)).mono ?_
    rintro e u9 ⟨rfl, hb⟩
    have b9 := T.out.on.trans hb
    clear T hb
    go_wp2_with (fail)
    go_ret
    exact ⟨rfl, b9⟩
set_option maxRecDepth 100000 in
set_option maxHeartbeats 4000000 in
theorem eone_stop (d : Dbl) (s : Slt) (p : Nat) (next P I B : Int) (w : World) (hL : d.L.length = 10) (hl : longD d = false) (hs : s.S.size ≤ 200) (hp : p < 256) (hm : mayD d P I B = false ∨ mayD ⟨d.N, d.L.set (p % 10) s⟩ P I B = false) (hT : TabAt w) (hE : ErrAt w) :
    Calls Tryd.prog 7 #[d.v, s.v, .int .u8 (p : Nat), .int .i64 next, gv P I B] w fun e w' => e = .returned (.bool true) ∧ On w w' := by
  have T := Lib.hid (On3.new w d s P I B)
  have HT := Lib.hid hT
  have HE := Lib.hid hE
  have HL := Lib.hid hL
  have hlong := fun W => long_calls d W hL
  rw [hl] at hlong
  obtain ⟨k, hkp, hk10⟩ : ∃ k, p % 10 = k ∧ k < 10 := ⟨_, rfl, by omega⟩
  rw [hkp] at hm
  obtain ⟨c, hcc⟩ : ∃ c : Dbl, c = ⟨d.N, d.L.set k s⟩ := ⟨_, rfl⟩
  rw [← hcc] at hm
  have hcl : c.L.length = 10 := by rw [hcc]; simp [hL]
  have HCC := Lib.hid hcc
  have hbl := fun W hW => blockw_calls d P I B W hL hW
  have hbc := fun W hW => blockw_calls c P I B W hcl hW
  generalize mayD d P I B = m1 at *
  generalize mayD c P I B = m2 at *
  generalize dW d = q at *
  generalize dW c = qc at *
  have HLO := Lib.hid hlong
  have HBL := Lib.hid hbl
  have HBC := Lib.hid hbc
  have HCL := Lib.hid hcl
  have HM := Lib.hid hm
  have hk : (p : Int).tmod 10 = (k : Int) := by rw [Int.tmod_eq_emod_of_nonneg (by omega)]; omega
  have hk' : (p : Int) % 10 = (k : Int) := by omega
  have hwr : wrap64 (p : Int) = (p : Int) := by unfold wrap64; omega
  have HK := Lib.hid hk
  have HK' := Lib.hid hk'
  have hd : decide (200 < (s.S.size : Int)) = false := by rw [decide_eq_false_iff_not]; omega
  clear hT hE hL hl hlong hbl hbc hcl hm hcc hk hk' hs
  go_enter Tryd.func7, Tryd.ntmps7
  go_upto_region 1 with (fail)
  generalize ((w.alloc (.cells d.c 26)).alloc (.cells s.c 23)).alloc (.cells #[.int .i64 P, .int .i64 I, .int .i64 B] 28) = W at *
  go_wp2_with (first | (refine wpList_load_rowW rfl 26 (.tmp 5) rfl w.heap.size rfl 26 d.c (0, 0) _ T.out.blk Tryd.underlying26 rfl (Dbl.infoT HL.out) ?_) | (refine wpList_load_rowW rfl 23 (.tmp 6) rfl (w.heap.size + 1) rfl 23 s.c (0, 0) _ T.out.slo Tryd.underlying23 rfl (by kernel_rfl) ?_) | (refine wpList_load_rowW rfl 28 (.tmp 9) rfl (w.heap.size + 1 + 1) rfl 28 #[.int .i64 P, .int .i64 I, .int .i64 B] (0, 0) _ T.out.geo Tryd.underlying28 rfl (by kernel_rfl) ?_))
  refine (HLO.out _).mono ?_
  rintro e W1 ⟨rfl, hb⟩
  replace T := Lib.hid (T.out.on' hb)
  clear hb HLO
  obtain ⟨s0, s1, s2⟩ := Sb.cells T.out.slo
  have hls := Ob.lt T.out.slo
  have S4 := Db.stored (w := W1) (d := d)
  have D4 := Lib.hid (show Db _ W1.heap.size d from S4.1)
  have O4 := Lib.hid S4.2
  have HC : Hid (w.heap.size + 1 + 1 < W1.heap.size) := Lib.hid (Ob.lt T.out.geo)
  clear S4
  go_upto_region 4 with (first
    | (refine wpList_load_rowW rfl 26 (.tmp 5) rfl w.heap.size rfl 26 d.c (0, 0) _ T.out.blk Tryd.underlying26 rfl (Dbl.infoT HL.out) ?_)
    | (refine wpList_store_row rfl 26 (.tmp 11) (.tmp 33) rfl W1.heap.size d.c rfl rfl 26 _ (heap_alloc_new _ _) (Dbl.infoT HL.out) (by rw [Dbl.size HL.out]; rfl) (Dbl.one _) ?_))
  clear s0 s1 s2 hls hd
  have U := Lib.hid (T.out.on' O4.out)
  clear T O4
  generalize (W1.alloc (.cells #[.int .i64 0, .int .i64 0, .int .u8 0, .string ⟨#[]⟩, .int .i64 0, .int .u8 0, .string ⟨#[]⟩, .int .i64 0, .int .u8 0, .string ⟨#[]⟩, .int .i64 0, .int .u8 0, .string ⟨#[]⟩, .int .i64 0, .int .u8 0, .string ⟨#[]⟩, .int .i64 0, .int .u8 0, .string ⟨#[]⟩, .int .i64 0, .int .u8 0, .string ⟨#[]⟩, .int .i64 0, .int .u8 0, .string ⟨#[]⟩, .int .i64 0, .int .u8 0, .string ⟨#[]⟩, .int .i64 0, .int .u8 0, .string ⟨#[]⟩] 26)).setRow W1.heap.size d.c = V at *
  generalize W1.heap.size = cb at *
  clear W1
  go_upto_region 5 with (fail)
  try rw [HK.out]
  try rw [HK'.out]
  obtain ⟨s0, s1, s2⟩ := Sb.cells U.out.slo
  have hls := Ob.lt U.out.slo
  obtain ⟨c0, c1, c2⟩ := Db.cells D4.out k (by rw [HL.out]; exact hk10)
  have fz := Db.frozen D4.out
  have hlc := Ob.lt D4.out
  have hkI : (k : Int) < 10 := by omega
  have hC5 := D4.out.set k (by rw [HL.out]; exact hk10) s
  have hU5 := U.out.set3 HC.out k s
  go_upto_region 6 with (fail)
  clear s0 s1 s2 hls c0 c1 c2 fz hlc hkI D4 U
  generalize ((V.setCell ⟨cb, 1 + k * 3, none⟩ (.int .i64 s.I)).setCell ⟨cb, 1 + k * 3 + 1, none⟩ (.int .u8 s.K)).setCell ⟨cb, 1 + k * 3 + 2, none⟩ (.string s.S) = V6 at *
  have T := Lib.hid (show One w V6 d s P I B cb c from by rw [HCC.out]; exact ⟨hU5, hC5⟩)
  clear hU5 hC5
  go_wp2_with (first | (refine wpList_load_rowW rfl 26 (.tmp 5) rfl w.heap.size rfl 26 d.c (0, 0) _ T.out.blk Tryd.underlying26 rfl (Dbl.infoT HL.out) ?_) | (refine wpList_load_rowW rfl 23 (.tmp 6) rfl (w.heap.size + 1) rfl 23 s.c (0, 0) _ T.out.slo Tryd.underlying23 rfl (by kernel_rfl) ?_) | (refine wpList_load_rowW rfl 28 (.tmp 9) rfl (w.heap.size + 1 + 1) rfl 28 #[.int .i64 P, .int .i64 I, .int .i64 B] (0, 0) _ T.out.geo Tryd.underlying28 rfl (by kernel_rfl) ?_) | (refine wpList_load_rowW rfl 26 (.tmp 11) rfl cb rfl 26 c.c (0, 0) _ T.out.cpy Tryd.underlying26 rfl (Dbl.infoT HCL.out) ?_))
  refine (HBL.out _ (HT.out.below T.out.on)).mono ?_
  rintro e w2 ⟨A1, c1, n1, x1, rfl, hb, G1, R1⟩
  replace T := Lib.hid (T.out.on' hb)
  clear hb HBL R1
  go_wp2_with (first | (refine wpList_load_rowW rfl 26 (.tmp 5) rfl w.heap.size rfl 26 d.c (0, 0) _ T.out.blk Tryd.underlying26 rfl (Dbl.infoT HL.out) ?_) | (refine wpList_load_rowW rfl 23 (.tmp 6) rfl (w.heap.size + 1) rfl 23 s.c (0, 0) _ T.out.slo Tryd.underlying23 rfl (by kernel_rfl) ?_) | (refine wpList_load_rowW rfl 28 (.tmp 9) rfl (w.heap.size + 1 + 1) rfl 28 #[.int .i64 P, .int .i64 I, .int .i64 B] (0, 0) _ T.out.geo Tryd.underlying28 rfl (by kernel_rfl) ?_) | (refine wpList_load_rowW rfl 26 (.tmp 11) rfl cb rfl 26 c.c (0, 0) _ T.out.cpy Tryd.underlying26 rfl (Dbl.infoT HCL.out) ?_))
  refine (HBC.out _ (HT.out.below T.out.on)).mono ?_
  rintro e w3 ⟨A2, c2, n2, x2, rfl, hb, G2, R2⟩
  replace T := Lib.hid (T.out.on' hb)
  clear hb HBC R2
  cases m1 with
  | false =>
    obtain ⟨rfl, rfl⟩ := G1.out.2.1 rfl
    clear G1 G2 HM
    go_wp2_with (fail)
    refine (alive_calls _ (HT.out.below T.out.on) (HE.out.below T.out.on)).mono ?_
    rintro e u9 ⟨rfl, hb⟩
    have b9 := T.out.on.trans hb
    clear T hb
    go_wp2_with (fail)
    go_ret
    exact ⟨rfl, b9⟩
  | true =>
    cases m2 with
    | true => rcases HM.out with h | h <;> cases h
    | false =>
      obtain ⟨rfl, rfl⟩ := G1.out.1 rfl
      obtain ⟨rfl, rfl⟩ := G2.out.2.1 rfl
      clear G1 G2 HM
      go_wp2_with (fail)
      refine (alive_calls _ (HT.out.below T.out.on) (HE.out.below T.out.on)).mono ?_
      rintro e u9 ⟨rfl, hb⟩
      have b9 := T.out.on.trans hb
      clear T hb
      go_wp2_with (fail)
      go_ret
      exact ⟨rfl, b9⟩
/-- A block's words with one slot turned. -/
theorem dW_set (d : Dbl) (k : Nat) (s : Slt) (hL : d.L.length = 10) (hk : k < 10) (i : Nat) (hi : i < 32) :
    (2 + 3 * k ≤ i → i < 5 + 3 * k → (dW ⟨d.N, d.L.set k s⟩).getD i 0 = (slW s).getD (i - 2 - 3 * k) 0) ∧ (¬ (2 + 3 * k ≤ i ∧ i < 5 + 3 * k) → (dW ⟨d.N, d.L.set k s⟩).getD i 0 = (dW d).getD i 0) := by
  match i, hi with
  | 0, _ => exact ⟨fun h => by omega, fun _ => rfl⟩
  | 1, _ => exact ⟨fun h => by omega, fun _ => rfl⟩
  | i + 2, hi =>
    obtain ⟨a, j, hj, ha, rfl⟩ : ∃ a j, j < 3 ∧ a < 10 ∧ i = a * 3 + j := ⟨i / 3, i % 3, by omega, by omega, by omega⟩
    have h10 : (d.L.set k s).length = 10 := by simp [hL]
    rw [show a * 3 + j + 2 = 2 + a * 3 + j by omega, ← rowK_get _ a j hj, ← rowK_get (dW d) a j hj, rowK_dW ⟨d.N, d.L.set k s⟩ a (by show a < (d.L.set k s).length; omega), rowK_dW d a (by omega)]
    show (2 + 3 * k ≤ 2 + a * 3 + j → 2 + a * 3 + j < 5 + 3 * k → (slW ((d.L.set k s).getD a zS)).getD j 0 = _) ∧ (_ → (slW ((d.L.set k s).getD a zS)).getD j 0 = _)
    constructor
    · intro h1 h2
      obtain rfl : a = k := by omega
      rw [List.getD_eq_getElem?_getD (l := d.L.set a s), List.getElem?_set_self (by omega), Option.getD_some, show 2 + a * 3 + j - 2 - 3 * a = j by omega]
    · intro h
      have hne : k ≠ a := by omega
      rw [List.getD_eq_getElem?_getD (l := d.L.set k s), List.getElem?_set_ne hne, ← List.getD_eq_getElem?_getD]
theorem mayD_set {d : Dbl} {k : Nat} {s : Slt} {P I B : Int} (hk : k < d.L.length) (h : mayD ⟨d.N, d.L.set k s⟩ P I B = true) : mayB s P I B = true := by
  obtain ⟨hg, _, _, hs⟩ := mayD_of h
  have := hs k (by show k < (d.L.set k s).length; simpa using hk)
  have e : (d.L.set k s).getD k zS = s := by rw [List.getD_eq_getElem?_getD, List.getElem?_set_self hk, Option.getD_some]
  rw [show (Dbl.L ⟨d.N, d.L.set k s⟩) = d.L.set k s from rfl, e] at this
  unfold mayB
  rw [decide_eq_true hg, this]; rfl
theorem mayD_next {c : Dbl} {n P I B : Int} (h : mayD c P I B = true) : mayD ⟨n, c.L⟩ P I B = nextB n P I B := by
  obtain ⟨hg, _, _, hs⟩ := mayD_of h
  unfold nextB
  rw [decide_eq_true hg, Bool.true_and]
  cases hn : decide (0 ≤ n ∧ n ≤ B) with
  | true =>
    have hn := of_decide_eq_true hn
    exact mayD_intro hg hn.1 hn.2 hs
  | false =>
    cases hm : mayD ⟨n, c.L⟩ P I B with
    | false => rfl
    | true =>
      obtain ⟨_, h0, h1, _⟩ := mayD_of hm
      exact absurd ⟨h0, h1⟩ (of_decide_eq_false hn)
theorem dW_next (c : Dbl) (n : Int) : (dW ⟨n, c.L⟩).set 0 ((dW c).getD 0 0) = dW c := rfl
theorem add_spot (b o n : Nat) : (⟨b, o, none⟩ : Addr).add n = ⟨b, o + n, none⟩ := by
  unfold Addr.add
  split
  · rename_i h; subst h; rfl
  · rfl
/-- The first cell of a row of one's own. -/
theorem own_first {e : TypeId} {w : World} {g n c : Nat} {l : List Nat} (h : OwnR w e 1 (some ⟨g, 0, none⟩) n c (wv l)) (h0 : 0 < l.length) (x : Nat) :
    (∀ k, k < l.length → w.cell? ⟨g, k, none⟩ = some (.int .u64 (l.getD k 0 : Nat))) ∧ w.frozen? ⟨g, 0, none⟩ = false ∧ g < w.heap.size ∧ Row (w.setCell ⟨g, 0, none⟩ (.int .u64 (x : Nat))) (some ⟨g, 0, none⟩) (l.set 0 x) := by
  obtain ⟨ad, e1, hlt, hcs⟩ := row_own h h0
  injection e1 with e1
  subst e1
  have hcs' : ∀ k, k < l.length → w.cell? ⟨g, k, none⟩ = some (.int .u64 (l.getD k 0 : Nat)) := fun k hk => by
    have := hcs k hk
    rwa [add_zero_block] at this
  obtain ⟨h1, h2, h3, h4⟩ := h
  rcases h4 with ⟨h4, _⟩ | ⟨g', cur, h4, hg, h5, h6⟩
  · cases h4
  injection h4 with h4
  injection h4 with h4
  subst h4
  refine ⟨hcs', by simp [World.frozen?, hg], hlt, fun _ => ⟨_, rfl, by rw [World.size_setCell]; exact hlt, fun k hk => ?_⟩⟩
  rw [add_zero_block]
  have hk' : k < l.length := by simpa using hk
  have hh : (w.setCell ⟨g, 0, none⟩ (.int .u64 (x : Nat))).heap[g]? = some (.cells (cur.setIfInBounds 0 (.int .u64 (x : Nat))) e (0, 0)) := by simp [World.setCell, Array.getElem?_modify, hg]
  rw [cell_of_row _ g k _ e (0, 0) hh]
  have hc := hcs' k hk'
  rw [cell_of_row w g k _ e (0, 0) hg] at hc
  by_cases hk0 : k = 0
  · subst hk0
    have hsz : 0 < cur.size := (Array.getElem?_eq_some_iff.1 hc).1
    rw [Array.getElem?_setIfInBounds_self_of_lt hsz]
    rw [List.getD_eq_getElem?_getD, List.getElem?_set_self h0]; rfl
  · rw [Array.getElem?_setIfInBounds_ne (fun h => hk0 h.symm), hc]
    rw [List.getD_eq_getElem?_getD (l := l.set 0 x), List.getElem?_set_ne (fun h => hk0 h.symm), ← List.getD_eq_getElem?_getD]
set_option maxRecDepth 100000 in
set_option maxHeartbeats 4000000 in
theorem eone_go (d : Dbl) (s : Slt) (p : Nat) (next P I B : Int) (w : World) (hL : d.L.length = 10) (hl : longD d = false) (hs : s.S.size ≤ 200) (hp : p < 256) (hm1 : mayD d P I B = true) (hm2 : mayD ⟨d.N, d.L.set (p % 10) s⟩ P I B = true) (hT : TabAt w) (hE : ErrAt w) :
    Calls Tryd.prog 7 #[d.v, s.v, .int .u8 (p : Nat), .int .i64 next, gv P I B] w fun e w' => e = .returned (.bool true) ∧ On w w' := by
  have T := Lib.hid (On3.new w d s P I B)
  have HT := Lib.hid hT
  have HE := Lib.hid hE
  have HL := Lib.hid hL
  have hlong := fun W => long_calls d W hL
  rw [hl] at hlong
  obtain ⟨k, hkp, hk10⟩ : ∃ k, p % 10 = k ∧ k < 10 := ⟨_, rfl, by omega⟩
  rw [hkp] at hm2
  have hms := mayD_set (by rw [hL]; exact hk10) hm2
  have hds := dW_set d k s hL hk10
  obtain ⟨c, hcc⟩ : ∃ c : Dbl, c = ⟨d.N, d.L.set k s⟩ := ⟨_, rfl⟩
  rw [← hcc] at hm2
  simp only [← hcc] at hds
  have hcl : c.L.length = 10 := by rw [hcc]; simp [hL]
  have HCC := Lib.hid hcc
  have hbl := fun W hW => blockw_calls d P I B W hL hW
  rw [hm1] at hbl
  have hbc := fun W hW => block_calls c P I B W hcl hm2 hW
  have hen := fun W hW => encode_ok s P I B W hms hW
  have hmn := mayD_next (n := next) hm2
  have hnl : (⟨next, c.L⟩ : Dbl).L.length = 10 := hcl
  have hbn := fun (h : nextB next P I B = true) W hW => block_calls ⟨next, c.L⟩ P I B W hnl (hmn.trans h) hW
  have hbb := fun (h : nextB next P I B = false) W hW => block_bad ⟨next, c.L⟩ P I B W hnl (hmn.trans h) hW
  have hhd := fun W => head_calls next P I B W
  have hq0 : (dW ⟨next, c.L⟩).getD 0 0 = headN next := dW_zero _
  have hqs := dW_next c next
  have hqnl := dW_length hnl
  have hql := dW_length hL
  have hqcl := dW_length hcl
  have hsl := slW_length s
  obtain ⟨cn, hcn⟩ : ∃ cn : Dbl, (⟨next, c.L⟩ : Dbl) = cn := ⟨_, rfl⟩
  have HCN := Lib.hid hcn
  rw [hcn] at hbn hbb hq0 hqs hqnl hnl
  generalize nextB next P I B = m4 at *
  generalize dW d = q at *
  generalize dW c = qc at *
  generalize dW cn = qn at *
  generalize slW s = l3 at *
  generalize headN next = hh at *
  have HLO := Lib.hid hlong
  have HBL := Lib.hid hbl
  have HBC := Lib.hid hbc
  have HEN := Lib.hid hen
  have HBN := Lib.hid hbn
  have HBB := Lib.hid hbb
  have HHD := Lib.hid hhd
  have HCL := Lib.hid hcl
  have HNL := Lib.hid hnl
  have HQ0 := Lib.hid hq0
  have HQS := Lib.hid hqs
  have HQN := Lib.hid hqnl
  have HQL := Lib.hid hql
  have HQC := Lib.hid hqcl
  have HSL := Lib.hid hsl
  have HDS := Lib.hid hds
  have hk : (p : Int).tmod 10 = (k : Int) := by rw [Int.tmod_eq_emod_of_nonneg (by omega)]; omega
  have hk' : (p : Int) % 10 = (k : Int) := by omega
  have hwr : wrap64 (p : Int) = (p : Int) := by unfold wrap64; omega
  have HK := Lib.hid hk
  have HK' := Lib.hid hk'
  have hd : decide (200 < (s.S.size : Int)) = false := by rw [decide_eq_false_iff_not]; omega
  clear hT hE hL hl hlong hbl hbc hen hmn hbn hbb hhd hcl hnl hq0 hqs hqnl hql hqcl hsl hds hm1 hm2 hms hcc hcn hk hk' hs
  go_enter Tryd.func7, Tryd.ntmps7
  go_upto_region 1 with (fail)
  generalize ((w.alloc (.cells d.c 26)).alloc (.cells s.c 23)).alloc (.cells #[.int .i64 P, .int .i64 I, .int .i64 B] 28) = W at *
  go_wp2_with (first | (refine wpList_load_rowW rfl 26 (.tmp 5) rfl w.heap.size rfl 26 d.c (0, 0) _ T.out.blk Tryd.underlying26 rfl (Dbl.infoT HL.out) ?_) | (refine wpList_load_rowW rfl 23 (.tmp 6) rfl (w.heap.size + 1) rfl 23 s.c (0, 0) _ T.out.slo Tryd.underlying23 rfl (by kernel_rfl) ?_) | (refine wpList_load_rowW rfl 28 (.tmp 9) rfl (w.heap.size + 1 + 1) rfl 28 #[.int .i64 P, .int .i64 I, .int .i64 B] (0, 0) _ T.out.geo Tryd.underlying28 rfl (by kernel_rfl) ?_))
  refine (HLO.out _).mono ?_
  rintro e W1 ⟨rfl, hb⟩
  replace T := Lib.hid (T.out.on' hb)
  clear hb HLO
  obtain ⟨s0, s1, s2⟩ := Sb.cells T.out.slo
  have hls := Ob.lt T.out.slo
  have S4 := Db.stored (w := W1) (d := d)
  have D4 := Lib.hid (show Db _ W1.heap.size d from S4.1)
  have O4 := Lib.hid S4.2
  have HC : Hid (w.heap.size + 1 + 1 < W1.heap.size) := Lib.hid (Ob.lt T.out.geo)
  clear S4
  go_upto_region 4 with (first
    | (refine wpList_load_rowW rfl 26 (.tmp 5) rfl w.heap.size rfl 26 d.c (0, 0) _ T.out.blk Tryd.underlying26 rfl (Dbl.infoT HL.out) ?_)
    | (refine wpList_store_row rfl 26 (.tmp 11) (.tmp 33) rfl W1.heap.size d.c rfl rfl 26 _ (heap_alloc_new _ _) (Dbl.infoT HL.out) (by rw [Dbl.size HL.out]; rfl) (Dbl.one _) ?_))
  clear s0 s1 s2 hls hd
  have U := Lib.hid (T.out.on' O4.out)
  clear T O4
  generalize (W1.alloc (.cells #[.int .i64 0, .int .i64 0, .int .u8 0, .string ⟨#[]⟩, .int .i64 0, .int .u8 0, .string ⟨#[]⟩, .int .i64 0, .int .u8 0, .string ⟨#[]⟩, .int .i64 0, .int .u8 0, .string ⟨#[]⟩, .int .i64 0, .int .u8 0, .string ⟨#[]⟩, .int .i64 0, .int .u8 0, .string ⟨#[]⟩, .int .i64 0, .int .u8 0, .string ⟨#[]⟩, .int .i64 0, .int .u8 0, .string ⟨#[]⟩, .int .i64 0, .int .u8 0, .string ⟨#[]⟩, .int .i64 0, .int .u8 0, .string ⟨#[]⟩] 26)).setRow W1.heap.size d.c = V at *
  generalize W1.heap.size = cb at *
  clear W1
  go_upto_region 5 with (fail)
  try rw [HK.out]
  try rw [HK'.out]
  obtain ⟨s0, s1, s2⟩ := Sb.cells U.out.slo
  have hls := Ob.lt U.out.slo
  obtain ⟨c0, c1, c2⟩ := Db.cells D4.out k (by rw [HL.out]; exact hk10)
  have fz := Db.frozen D4.out
  have hlc := Ob.lt D4.out
  have hkI : (k : Int) < 10 := by omega
  have hC5 := D4.out.set k (by rw [HL.out]; exact hk10) s
  have hU5 := U.out.set3 HC.out k s
  go_upto_region 6 with (fail)
  clear s0 s1 s2 hls c0 c1 c2 fz hlc hkI D4 U
  generalize ((V.setCell ⟨cb, 1 + k * 3, none⟩ (.int .i64 s.I)).setCell ⟨cb, 1 + k * 3 + 1, none⟩ (.int .u8 s.K)).setCell ⟨cb, 1 + k * 3 + 2, none⟩ (.string s.S) = V6 at *
  have T := Lib.hid (show One w V6 d s P I B cb c from by rw [HCC.out]; exact ⟨hU5, hC5⟩)
  clear hU5 hC5
  go_wp2_with (first | (refine wpList_load_rowW rfl 26 (.tmp 5) rfl w.heap.size rfl 26 d.c (0, 0) _ T.out.blk Tryd.underlying26 rfl (Dbl.infoT HL.out) ?_) | (refine wpList_load_rowW rfl 23 (.tmp 6) rfl (w.heap.size + 1) rfl 23 s.c (0, 0) _ T.out.slo Tryd.underlying23 rfl (by kernel_rfl) ?_) | (refine wpList_load_rowW rfl 28 (.tmp 9) rfl (w.heap.size + 1 + 1) rfl 28 #[.int .i64 P, .int .i64 I, .int .i64 B] (0, 0) _ T.out.geo Tryd.underlying28 rfl (by kernel_rfl) ?_) | (refine wpList_load_rowW rfl 26 (.tmp 11) rfl cb rfl 26 c.c (0, 0) _ T.out.cpy Tryd.underlying26 rfl (Dbl.infoT HCL.out) ?_))
  refine (HBL.out _ (HT.out.below T.out.on)).mono ?_
  rintro e w2 ⟨A1, c1, n1, x1, rfl, hb, G1, R1⟩
  obtain ⟨rfl, rfl⟩ := G1.out.1 rfl
  have RL := Lib.hid (R1 rfl)
  replace T := Lib.hid (T.out.on' hb)
  rw [HQL.out]
  clear hb HBL R1 G1
  go_wp2_with (first | (refine wpList_load_rowW rfl 26 (.tmp 5) rfl w.heap.size rfl 26 d.c (0, 0) _ T.out.blk Tryd.underlying26 rfl (Dbl.infoT HL.out) ?_) | (refine wpList_load_rowW rfl 23 (.tmp 6) rfl (w.heap.size + 1) rfl 23 s.c (0, 0) _ T.out.slo Tryd.underlying23 rfl (by kernel_rfl) ?_) | (refine wpList_load_rowW rfl 28 (.tmp 9) rfl (w.heap.size + 1 + 1) rfl 28 #[.int .i64 P, .int .i64 I, .int .i64 B] (0, 0) _ T.out.geo Tryd.underlying28 rfl (by kernel_rfl) ?_) | (refine wpList_load_rowW rfl 26 (.tmp 11) rfl cb rfl 26 c.c (0, 0) _ T.out.cpy Tryd.underlying26 rfl (Dbl.infoT HCL.out) ?_))
  refine (HBC.out _ (HT.out.below T.out.on)).mono ?_
  rintro e w3 ⟨g2, c2, rfl, ho, hge, hb⟩
  have HG2 : Hid (cb < g2) := Lib.hid (Nat.lt_of_lt_of_le (Ob.lt T.out.cpy) hge)
  have RM := Lib.hid ho
  replace RL := Lib.hid (RL.out.below hb)
  replace T := Lib.hid (T.out.on' hb)
  clear hb HBC ho hge
  go_wp2_with (first | (refine wpList_load_rowW rfl 26 (.tmp 5) rfl w.heap.size rfl 26 d.c (0, 0) _ T.out.blk Tryd.underlying26 rfl (Dbl.infoT HL.out) ?_) | (refine wpList_load_rowW rfl 23 (.tmp 6) rfl (w.heap.size + 1) rfl 23 s.c (0, 0) _ T.out.slo Tryd.underlying23 rfl (by kernel_rfl) ?_) | (refine wpList_load_rowW rfl 28 (.tmp 9) rfl (w.heap.size + 1 + 1) rfl 28 #[.int .i64 P, .int .i64 I, .int .i64 B] (0, 0) _ T.out.geo Tryd.underlying28 rfl (by kernel_rfl) ?_) | (refine wpList_load_rowW rfl 26 (.tmp 11) rfl cb rfl 26 c.c (0, 0) _ T.out.cpy Tryd.underlying26 rfl (Dbl.infoT HCL.out) ?_))
  refine (HEN.out _ (HT.out.below T.out.on)).mono ?_
  rintro e V ⟨g3, rfl, hI, _, hb⟩
  have RO := Lib.hid hI
  replace RL := Lib.hid (RL.out.below hb)
  replace RM := Lib.hid (RM.out.keep fun ad h => (Below.block hb ad.block (RM.out.lt ad h)))
  replace T := Lib.hid (T.out.on' hb)
  clear hb HEN hI
  obtain ⟨ad, rfl, hlr, hcs⟩ := RL.out (by rw [HQL.out]; decide)
  obtain ⟨ab, ao, ap⟩ := ad
  have c0 := hcs 0 (by rw [HQL.out]; decide)
  obtain rfl := spot_none c0
  have HCS := Lib.hid (show ∀ u, On V u → ∀ i, i < 32 → u.cell? ⟨ab, ao + i, none⟩ = some (.int .u64 (q.getD i 0 : Nat)) from fun u hu i hi => (World.cell?_of_block (Below.block hu ab hlr)).trans (by have h := hcs i (by rw [HQL.out]; exact hi); rwa [add_spot] at h))
  have hof := own_first RM.out (by rw [HQC.out]; decide) 0
  have HCM := Lib.hid (show ∀ u, On V u → ∀ i, i < 32 → u.cell? ⟨g2, i, none⟩ = some (.int .u64 (qc.getD i 0 : Nat)) from fun u hu i hi => (World.cell?_of_block (Below.block hu g2 hof.2.2.1)).trans (hof.1 i (by rw [HQC.out]; exact hi)))
  have HCO := Lib.hid (show ∀ u, On V u → ∀ i, i < 3 → u.cell? ⟨g3, i, none⟩ = some (.int .u64 (l3.getD i 0 : Nat)) from fun u hu i hi => (World.cell?_of_block (Below.block hu g3 RO.out.lt)).trans (RO.out.cell i (by rw [HSL.out]; exact hi)))
  clear hlr hcs c0 hof RL RO
  go_wp2_with (fail)
  go_loopw [19] (fun i wr => ∃ j : Nat, i = .int .i64 j ∧ j ≤ 32 ∧ Hid (On V wr)) (fun i _ => 32 - (intOf i).toNat)
  case atStart => exact ⟨0, rfl, by omega, Lib.hid (On.refl _)⟩
  case round =>
    obtain ⟨i, rfl, hi, hon⟩ := hrel
    by_cases hi32 : i < 32
    · have hds := HDS.out i hi32
      have hk30 : (k : Int) < 10 := by omega
      have hiI : (i : Int) < 32 := by omega
      by_cases hin : 2 + 3 * k ≤ i ∧ i < 5 + 3 * k
      · have e1 := hds.1 hin.1 hin.2
        obtain ⟨j, hj⟩ : ∃ j, i = 2 + 3 * k + j := ⟨i - (2 + 3 * k), by omega⟩
        have hj3 : j < 3 := by omega
        rw [show i - 2 - 3 * k = j by omega] at e1
        have hb1 : decide (2 + 3 * (k : Int) ≤ (i : Int)) = true := decide_eq_true (by omega)
        have hb2 : decide ((i : Int) < 5 + 3 * (k : Int)) = true := decide_eq_true (by omega)
        have cm := fun u (hu : On wr u) => HCM.out u (hon.out.trans hu) i hi32
        have co := fun u (hu : On wr u) => HCO.out u (hon.out.trans hu) j hj3
        rw [e1] at cm
        generalize l3.getD j 0 = xv at *
        have HCM2 := Lib.hid cm
        have HCO2 := Lib.hid co
        have HJ := Lib.hid hj
        have w8 : IntKind.i64.wrap (3 * (k : Int)) = 3 * (k : Int) := by rw [IntKind.wrap_i64]; omega
        have w6 : IntKind.i64.wrap ((i : Int) - 2) = (i : Int) - 2 := by rw [IntKind.wrap_i64]; omega
        have w9 : IntKind.i64.wrap ((i : Int) - 2 - 3 * (k : Int)) = (j : Int) := by rw [IntKind.wrap_i64]; omega
        have hjI : (j : Int) < 3 := by omega
        clear hds e1 hj hin cm co
        go_upto_region 19 with (fail)
        refine wp_region4 [.val (.slice (some ⟨g2, 0, none⟩) 32 c2), .val (.int .i64 (i : Nat)), .val (.pointer (some ⟨g2, i, none⟩)), .val (.int .u64 (xv : Nat)), .val (.slice (some ⟨g3, 0, none⟩) 3 3), .val (.int .i64 (i : Nat)), .val (.int .i64 ((i : Int) - 2)), .val (.int .i64 (k : Nat)), .val (.int .i64 (3 * (k : Int))), .val (.int .i64 (j : Nat)), .val (.pointer (some ⟨g3, j, none⟩)), .val (.int .u64 (xv : Nat)), .val (.bool false)] (by kernel_rfl) (by kernel_rfl) (by kernel_rfl) ?steps19 ?rest19
        case steps19 =>
          refine ⟨?a0, ?a1, ?a2, ?a3, ?a4, ?a5, ?a6, ?a7, ?a8, ?a9, ?a10, ?a11, ?a12, trivial⟩
          case a0 =>
            exact st4_val _ rfl (.inl rfl) fun a u hb hA hd => by
              have q0 := ev_of (show a.eval (.tmp 15) = .slice (some ⟨g2, 0, none⟩) 32 c2 from hA.eval 15 rfl)
              unfold execOp
              simp [go_sem, q0]
          case a1 =>
            exact st4_val _ rfl (.inl rfl) fun a u hb hA hd => by
              have q0 := ev_of (show a.eval (.tmp 19) = .int .i64 (i : Nat) from hA.eval 19 rfl)
              unfold execOp
              simp [go_sem, q0]
          case a2 =>
            exact st4_val _ rfl (.inl rfl) fun a u hb hA hd => by
              have q0 := ev_of (hd 0 101 rfl rfl _ rfl)
              have q1 := ev_of (hd 1 102 rfl rfl _ rfl)
              unfold execOp
              simp [go_sem, q0, q1, hiI]
          case a3 =>
            exact st4_val _ rfl (.inl rfl) fun a u hb hA hd => run_load64 rfl ⟨g2, i, none⟩ _ (hd 2 103 rfl rfl _ rfl) (HCM2.out u hb)
          case a4 =>
            exact st4_val _ rfl (.inl rfl) fun a u hb hA hd => by
              have q0 := ev_of (show a.eval (.tmp 17) = .slice (some ⟨g3, 0, none⟩) 3 3 from hA.eval 17 rfl)
              unfold execOp
              simp [go_sem, q0]
          case a5 =>
            exact st4_val _ rfl (.inl rfl) fun a u hb hA hd => by
              have q0 := ev_of (show a.eval (.tmp 19) = .int .i64 (i : Nat) from hA.eval 19 rfl)
              unfold execOp
              simp [go_sem, q0]
          case a6 =>
            exact st4_val _ rfl (.inl rfl) fun a u hb hA hd => by
              have q0 := ev_of (hd 5 106 rfl rfl _ rfl)
              unfold execOp
              simp [go_sem, q0, w6]
          case a7 =>
            exact st4_val _ rfl (.inl rfl) fun a u hb hA hd => by
              have q0 := ev_of (show a.eval (.tmp 12) = .int .i64 (k : Nat) from hA.eval 12 rfl)
              unfold execOp
              simp [go_sem, q0]
          case a8 =>
            exact st4_val _ rfl (.inl rfl) fun a u hb hA hd => by
              have q0 := ev_of (hd 7 108 rfl rfl _ rfl)
              unfold execOp
              simp [go_sem, q0, w8]
          case a9 =>
            exact st4_val _ rfl (.inl rfl) fun a u hb hA hd => by
              have q0 := ev_of (hd 6 107 rfl rfl _ rfl)
              have q1 := ev_of (hd 8 109 rfl rfl _ rfl)
              unfold execOp
              simp [go_sem, q0, q1, w9]
          case a10 =>
            exact st4_val _ rfl (.inl rfl) fun a u hb hA hd => by
              have q0 := ev_of (hd 4 105 rfl rfl _ rfl)
              have q1 := ev_of (hd 9 110 rfl rfl _ rfl)
              unfold execOp
              simp [go_sem, q0, q1, hjI]
          case a11 =>
            exact st4_val _ rfl (.inl rfl) fun a u hb hA hd => run_load64 rfl ⟨g3, j, none⟩ _ (hd 10 111 rfl rfl _ rfl) (HCO2.out u hb)
          case a12 =>
            exact st4_val _ rfl (.inl rfl) fun a u hb hA hd => by
              have q0 := ev_of (hd 3 104 rfl rfl _ rfl)
              have q1 := ev_of (hd 11 112 rfl rfl _ rfl)
              unfold execOp
              simp [go_sem, q0, q1]
        case rest19 =>
          intro vs u hb hR
          have e12 : vs 12 = .bool false := hR 12 (by decide)
          have hon2 := Lib.hid (hon.out.trans hb)
          simp only [putsFrom, Act.put, List.setIfInBounds_toArray, List.set_cons_succ, List.set_cons_zero, e12]
          generalize vs 0 = z0
          generalize vs 1 = z1
          generalize vs 2 = z2
          generalize vs 3 = z3
          generalize vs 4 = z4
          generalize vs 5 = z5
          generalize vs 6 = z6
          generalize vs 7 = z7
          generalize vs 8 = z8
          generalize vs 9 = z9
          generalize vs 10 = z10
          generalize vs 11 = z11
          clear hR e12 hb HCM2 HCO2 w6 w8 w9 hb1 hb2 hon
          go_wp2_with (fail)
          go_roundw
          case rel => exact ⟨i + 1, by go_num, by omega, hon2⟩
          case measure => simp [intOf]; omega
      · have e1 := hds.2 hin
        have hb12 : decide (2 + 3 * (k : Int) ≤ (i : Int)) = false ∨ (decide (2 + 3 * (k : Int) ≤ (i : Int)) = true ∧ decide ((i : Int) < 5 + 3 * (k : Int)) = false) := by
          by_cases h : 2 + 3 * k ≤ i
          · right
            refine ⟨decide_eq_true (by omega), decide_eq_false (by omega)⟩
          · left; exact decide_eq_false (by omega)
        have cm := fun u (hu : On wr u) => HCM.out u (hon.out.trans hu) i hi32
        have co := fun u (hu : On wr u) => HCS.out u (hon.out.trans hu) i hi32
        rw [e1] at cm
        generalize q.getD i 0 = xv at *
        have HCM2 := Lib.hid cm
        have HCO2 := Lib.hid co
        clear hds e1 hin cm co
        rcases hb12 with hb1 | ⟨hb1, hb2⟩
        all_goals
          go_upto_region 21 with (fail)
          refine wp_region4 [.val (.slice (some ⟨g2, 0, none⟩) 32 c2), .val (.int .i64 (i : Nat)), .val (.pointer (some ⟨g2, i, none⟩)), .val (.int .u64 (xv : Nat)), .val (.slice (some ⟨ab, ao, none⟩) 32 c1), .val (.int .i64 (i : Nat)), .val (.pointer (some ⟨ab, ao + i, none⟩)), .val (.int .u64 (xv : Nat)), .val (.bool false)] (by kernel_rfl) (by kernel_rfl) (by kernel_rfl) ?steps21 ?rest21
          case steps21 =>
            refine ⟨?b0, ?b1, ?b2, ?b3, ?b4, ?b5, ?b6, ?b7, ?b8, trivial⟩
            case b0 =>
              exact st4_val _ rfl (.inl rfl) fun a u hb hA hd => by
                have q0 := ev_of (show a.eval (.tmp 15) = .slice (some ⟨g2, 0, none⟩) 32 c2 from hA.eval 15 rfl)
                unfold execOp
                simp [go_sem, q0]
            case b1 =>
              exact st4_val _ rfl (.inl rfl) fun a u hb hA hd => by
                have q0 := ev_of (show a.eval (.tmp 19) = .int .i64 (i : Nat) from hA.eval 19 rfl)
                unfold execOp
                simp [go_sem, q0]
            case b2 =>
              exact st4_val _ rfl (.inl rfl) fun a u hb hA hd => by
                have q0 := ev_of (hd 0 114 rfl rfl _ rfl)
                have q1 := ev_of (hd 1 115 rfl rfl _ rfl)
                unfold execOp
                simp [go_sem, q0, q1, hiI, add_spot]
            case b3 =>
              exact st4_val _ rfl (.inl rfl) fun a u hb hA hd => run_load64 rfl ⟨g2, i, none⟩ _ (hd 2 116 rfl rfl _ rfl) (HCM2.out u hb)
            case b4 =>
              exact st4_val _ rfl (.inl rfl) fun a u hb hA hd => by
                have q0 := ev_of (show a.eval (.tmp 13) = .slice (some ⟨ab, ao, none⟩) 32 c1 from hA.eval 13 rfl)
                unfold execOp
                simp [go_sem, q0]
            case b5 =>
              exact st4_val _ rfl (.inl rfl) fun a u hb hA hd => by
                have q0 := ev_of (show a.eval (.tmp 19) = .int .i64 (i : Nat) from hA.eval 19 rfl)
                unfold execOp
                simp [go_sem, q0]
            case b6 =>
              exact st4_val _ rfl (.inl rfl) fun a u hb hA hd => by
                have q0 := ev_of (hd 4 118 rfl rfl _ rfl)
                have q1 := ev_of (hd 5 119 rfl rfl _ rfl)
                unfold execOp
                simp [go_sem, q0, q1, hiI, add_spot]
            case b7 =>
              exact st4_val _ rfl (.inl rfl) fun a u hb hA hd => run_load64 rfl ⟨ab, ao + i, none⟩ _ (hd 6 120 rfl rfl _ rfl) (HCO2.out u hb)
            case b8 =>
              exact st4_val _ rfl (.inl rfl) fun a u hb hA hd => by
                have q0 := ev_of (hd 3 117 rfl rfl _ rfl)
                have q1 := ev_of (hd 7 121 rfl rfl _ rfl)
                unfold execOp
                simp [go_sem, q0, q1]
          case rest21 =>
            intro vs u hb hR
            have e8 : vs 8 = .bool false := hR 8 (by decide)
            have hon2 := Lib.hid (hon.out.trans hb)
            simp only [putsFrom, Act.put, List.setIfInBounds_toArray, List.set_cons_succ, List.set_cons_zero, e8]
            generalize vs 0 = z0
            generalize vs 1 = z1
            generalize vs 2 = z2
            generalize vs 3 = z3
            generalize vs 4 = z4
            generalize vs 5 = z5
            generalize vs 6 = z6
            generalize vs 7 = z7
            clear hR e8 hb HCM2 HCO2 hb1 hon
            go_wp2_with (fail)
            go_roundw
            case rel => exact ⟨i + 1, by go_num, by omega, hon2⟩
            case measure => simp [intOf]; omega
    · obtain rfl : i = 32 := by omega
      replace T := Lib.hid (T.out.on' hon.out)
      replace RM := Lib.hid (RM.out.keep fun ad h => (Below.block hon.out ad.block (RM.out.lt ad h)))
      clear HCS HCM HCO hon hi32 hi HDS
      have n0 := Db.head T.out.cpy
      have fz := Db.frozen T.out.cpy 0
      have hlc := Ob.lt T.out.cpy
      have hC := T.out.cpy.setN next
      have hU := T.out.toOn3.set HC.out 0 (.int .i64 next)
      have hM : OwnR (wr.setCell ⟨cb, 0, none⟩ (.int .i64 next)) 36 1 (some ⟨g2, 0, none⟩) 32 c2 (wv qc) := RM.out.keep fun ad h => by
        injection h with h
        subst h
        exact Below.heap_setCell wr ⟨cb, 0, none⟩ (.int .i64 next) g2 (by have := HG2.out; show g2 ≠ cb; omega)
      have HC' := Lib.hid hC
      have HU := Lib.hid hU
      have HMM := Lib.hid hM
      clear hC hU hM
      go_upto_region 24 with (fail)
      clear n0 fz hlc RM T
      generalize wr.setCell ⟨cb, 0, none⟩ (.int .i64 next) = V2 at *
      have T := Lib.hid (show One w V2 d s P I B cb cn from ⟨HU.out, by rw [← HCN.out]; exact HC'.out⟩)
      clear HU HC'
      have HU2 := Lib.hid T.out.on.size
      go_wp2_with (first | (refine wpList_load_rowW rfl 26 (.tmp 5) rfl w.heap.size rfl 26 d.c (0, 0) _ T.out.blk Tryd.underlying26 rfl (Dbl.infoT HL.out) ?_) | (refine wpList_load_rowW rfl 23 (.tmp 6) rfl (w.heap.size + 1) rfl 23 s.c (0, 0) _ T.out.slo Tryd.underlying23 rfl (by kernel_rfl) ?_) | (refine wpList_load_rowW rfl 28 (.tmp 9) rfl (w.heap.size + 1 + 1) rfl 28 #[.int .i64 P, .int .i64 I, .int .i64 B] (0, 0) _ T.out.geo Tryd.underlying28 rfl (by kernel_rfl) ?_) | (refine wpList_load_rowW rfl 26 (.tmp 11) rfl cb rfl 26 cn.c (0, 0) _ T.out.cpy Tryd.underlying26 rfl (Dbl.infoT HNL.out) ?_))
      cases m4 with
      | false =>
        refine (HBB.out (by trivial) _ (HT.out.below T.out.on)).mono ?_
        rintro e u1 ⟨rfl, hb⟩
        replace T := Lib.hid (T.out.on' hb)
        clear hb HBB HBN
        go_wp2_with (first | (refine wpList_load_rowW rfl 26 (.tmp 5) rfl w.heap.size rfl 26 d.c (0, 0) _ T.out.blk Tryd.underlying26 rfl (Dbl.infoT HL.out) ?_) | (refine wpList_load_rowW rfl 23 (.tmp 6) rfl (w.heap.size + 1) rfl 23 s.c (0, 0) _ T.out.slo Tryd.underlying23 rfl (by kernel_rfl) ?_) | (refine wpList_load_rowW rfl 28 (.tmp 9) rfl (w.heap.size + 1 + 1) rfl 28 #[.int .i64 P, .int .i64 I, .int .i64 B] (0, 0) _ T.out.geo Tryd.underlying28 rfl (by kernel_rfl) ?_) | (refine wpList_load_rowW rfl 26 (.tmp 11) rfl cb rfl 26 cn.c (0, 0) _ T.out.cpy Tryd.underlying26 rfl (Dbl.infoT HNL.out) ?_))
        refine (HHD.out _).mono ?_
        rintro e u2 ⟨h4, y4, rfl, hb, G4⟩
        obtain ⟨rfl, rfl⟩ := G4.out.2 (by trivial)
        replace T := Lib.hid (T.out.on' hb)
        clear hb HHD G4
        go_wp2_with (fail)
        refine (alive_calls _ (HT.out.below T.out.on) (HE.out.below T.out.on)).mono ?_
        rintro e u9 ⟨rfl, hb⟩
        have b9 := T.out.on.trans hb
        clear T hb
        go_wp2_with (fail)
        go_ret
        exact ⟨rfl, b9⟩
      | true =>
        refine (HBN.out (by trivial) _ (HT.out.below T.out.on)).mono ?_
        rintro e u1 ⟨g5, c5, rfl, ho, hge, hb⟩
        have HGE := Lib.hid hge
        have HB5 := Lib.hid hb
        have RN := Lib.hid ho
        replace T := Lib.hid (T.out.on' hb)
        clear hb HBB HBN ho hge
        go_wp2_with (first | (refine wpList_load_rowW rfl 26 (.tmp 5) rfl w.heap.size rfl 26 d.c (0, 0) _ T.out.blk Tryd.underlying26 rfl (Dbl.infoT HL.out) ?_) | (refine wpList_load_rowW rfl 23 (.tmp 6) rfl (w.heap.size + 1) rfl 23 s.c (0, 0) _ T.out.slo Tryd.underlying23 rfl (by kernel_rfl) ?_) | (refine wpList_load_rowW rfl 28 (.tmp 9) rfl (w.heap.size + 1 + 1) rfl 28 #[.int .i64 P, .int .i64 I, .int .i64 B] (0, 0) _ T.out.geo Tryd.underlying28 rfl (by kernel_rfl) ?_) | (refine wpList_load_rowW rfl 26 (.tmp 11) rfl cb rfl 26 cn.c (0, 0) _ T.out.cpy Tryd.underlying26 rfl (Dbl.infoT HNL.out) ?_))
        refine (HHD.out _).mono ?_
        rintro e u2 ⟨h4, y4, rfl, hb, G4⟩
        obtain ⟨rfl, rfl⟩ := G4.out.1 (by trivial)
        replace T := Lib.hid (T.out.on' hb)
        replace HB5 := Lib.hid (HB5.out.trans hb)
        replace RN := Lib.hid (RN.out.keep fun ad h => (Below.block hb ad.block (RN.out.lt ad h)))
        clear hb HHD G4
        have rmV := row_own HMM.out
        have rm2 := rmV.below HB5.out
        have hof := own_first RN.out (by rw [HQN.out]; decide) (qc.getD 0 0)
        obtain ⟨hn, hfz, hln, hrow⟩ := hof
        have hn0 := hn 0 (by rw [HQN.out]; decide)
        rw [HQ0.out] at hn0
        obtain ⟨ad, e1, hlr, hcs⟩ := rm2 (by rw [HQC.out]; decide)
        injection e1 with e1
        subst e1
        have hm0 := hcs 0 (by rw [HQC.out]; decide)
        replace hm0 : u2.cell? ⟨g2, 0, none⟩ = some (.int .u64 (qc.getD 0 0 : Nat)) := hm0
        rw [HQS.out] at hrow
        have HRW := Lib.hid hrow
        have rm3 := Lib.hid (rmV.below (Below.setCell HB5.out (show V2.heap.size ≤ g5 from HGE.out) (.int .u64 ((qc.getD 0 0 : Nat) : Int)) (p := ⟨g5, 0, none⟩)))
        have bS := Lib.hid (Below.setCell T.out.on (show w.heap.size ≤ g5 from Nat.le_trans HU2.out HGE.out) (.int .u64 ((qc.getD 0 0 : Nat) : Int)) (p := ⟨g5, 0, none⟩))
        generalize qc.getD 0 0 = x0 at *
        clear rmV rm2 hn hrow hcs T RN HMM HB5 HGE
        go_upto_region 33 with (fail)
        clear hfz hln hn0 hlr hm0
        generalize u2.setCell ⟨g5, 0, none⟩ (.int .u64 ((x0 : Nat) : Int)) = u3 at *
        have hS := same_calls (some ⟨g5, 0, none⟩) (some ⟨g2, 0, none⟩) qc qc c5 c2 u3 HRW.out rm3.out (by rw [HQC.out]; decide) (by rw [HQC.out]; decide)
        rw [sameV_self, HQC.out] at hS
        have HS := Lib.hid hS
        clear hS HRW rm3
        go_wp2_with (fail)
        refine HS.out.mono ?_
        rintro e u4 ⟨rfl, m, rfl⟩
        have b4 : On w (u3.drewN m) := On.trans bS.out (on_drewN u3 m)
        clear HS bS
        go_wp2_with (fail)
        refine (alive_calls _ (HT.out.below b4) (HE.out.below b4)).mono ?_
        rintro e u5 ⟨rfl, hb⟩
        have b5 := b4.trans hb
        clear b4 hb
        go_wp2_with (fail)
        go_ret
        exact ⟨rfl, b5⟩
theorem eone_calls (d : Dbl) (s : Slt) (p : Int) (next P I B : Int) (w : World) (hL : d.L.length = 10) (p0 : 0 ≤ p) (p1 : p < 256) (hT : TabAt w) (hE : ErrAt w) :
    Calls Tryd.prog 7 #[d.v, s.v, .int .u8 p, .int .i64 next, gv P I B] w fun e w' => e = .returned (.bool true) ∧ On w w' := by
  by_cases h : longD d = true ∨ 200 < s.S.size
  · exact eone_long d s p next P I B w hL h hT hE
  · obtain ⟨p, rfl⟩ := Int.eq_ofNat_of_zero_le p0
    have hl : longD d = false := by
      cases hd : longD d
      · rfl
      · exact absurd (.inl hd) h
    cases hm1 : mayD d P I B with
    | false => exact eone_stop d s p next P I B w hL hl (by omega) (by omega) (.inl hm1) hT hE
    | true =>
      cases hm2 : mayD ⟨d.N, d.L.set (p % 10) s⟩ P I B with
      | false => exact eone_stop d s p next P I B w hL hl (by omega) (by omega) (.inr hm2) hT hE
      | true => exact eone_go d s p next P I B w hL hl (by omega) (by omega) hm1 hm2 hT hE
end Go.Proofs.YtipghcpodhokbaaDoor
