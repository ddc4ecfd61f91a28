/- All words of a block. -/
import Derived.Test.YtipghcpodhokbaaDoorSlo6
set_option linter.unusedSimpArgs false
set_option linter.unusedVariables false
namespace Go.Proofs.YtipghcpodhokbaaDoor
open Go.RowKit WordMath SumMath
/-- The loop: the words of the first k slots lie in a row of the call's own. -/
structure Lp (w0 wr : World) (P I B : Int) (g n c : Nat) (l : List Nat) : Prop where
  on : On w0 wr
  geo : Gb wr (w0.heap.size + 1) P I B
  own : OwnR wr 36 1 (some ⟨g, 0, none⟩) n c (wv l)
  far : w0.heap.size + 1 < g
theorem Lp.on' {w0 wr w' : World} {P I B : Int} {g n c : Nat} {l : List Nat} (h : Lp w0 wr P I B g n c l) (hb : On wr w') : Lp w0 w' P I B g n c l :=
  ⟨h.on.trans hb, Ob.on h.geo hb, h.own.keep fun ad e => Below.block hb _ (h.own.lt ad e), h.far⟩
theorem Lp.grow {w0 wr w' : World} {P I B : Int} {g n c : Nat} {l m : List Nat} (h : Lp w0 wr P I B g n c l) {g' k c' : Nat} (h2 : OwnR w' 36 1 (some ⟨g', 0, none⟩) k c' (wv l ++ wv m)) (h3 : wr.grownBy w' (some g)) (h4 : (some (⟨g, 0, none⟩ : Addr)) = some ⟨g', 0, none⟩ ∨ g' = wr.heap.size) : Lp w0 w' P I B g' k c' (l ++ m) := by
  have hf := h.far
  have hl := Ob.lt h.geo
  refine ⟨Below.grown h.on h3 (Below.size h.on) (fun j e => by injection e with e; omega), (h3.block _ hl (fun e => by injection e with e; omega)).trans h.geo, by rw [wv_append]; exact h2, ?_⟩
  rcases h4 with h4 | h4
  · injection h4 with h4
    injection h4 with h4 _ _
    omega
  · omega
/-- What Block hands back. -/
def GivesBlock (l : List Nat) (w : World) (e : Ending) (w' : World) : Prop :=
  ∃ g c, e = .returned (.tuple #[.slice (some ⟨g, 0, none⟩) 32 c, .int .i64 0]) ∧ OwnR w' 36 1 (some ⟨g, 0, none⟩) 32 c (wv l) ∧ w.heap.size ≤ g ∧ On w w'
theorem make_two (w : World) : (Instr.makeSlice 31 (.int .i64 2) (.int .i64 32)).run Tryd.prog w = .ok (.slice (some ⟨w.heap.size, 0, none⟩) 2 32) (w.alloc (.cells (madeCells #[.int .u64 0] 32) 36)) := by kernel_rfl
theorem own_two (w : World) (g h : Nat) (hB : Blk 36 w g (List.replicate 32 0)) : OwnR (w.setCell ⟨g, 0, none⟩ (.int .u64 (h : Nat))) 36 1 (some ⟨g, 0, none⟩) 2 32 (wv [h, 0]) :=
  ⟨by simp [wv], by decide, by unfold maxLen; decide, .inr ⟨g, _, rfl, hB.set 0 h, by simp [wv], rfl⟩⟩
set_option maxRecDepth 100000 in
set_option maxHeartbeats 4000000 in
theorem block_good (d : Dbl) (P I B : Int) (w : World) (hL : d.L.length = 10) (hn : nextB d.N P I B = true) (hg : GOK P I B) (hs : ∀ k, k < 10 → okS (d.L.getD k zS) I = true) (hT : TabAt w) (wl : List Nat) (hwl : dW d = wl) (h : Nat) (hh : headN d.N = h) :
    Calls Tryd.prog 11 #[d.v, gv P I B] w (GivesBlock wl w) := by
  have HT := Lib.hid hT
  have HH := Lib.hid (fun W => head_ok d.N P I B W hn)
  rw [hh] at HH
  have HS := Lib.hid hs
  have HGK := Lib.hid hg
  have HWL := Lib.hid hwl
  have HHH := Lib.hid hh
  have HL := Lib.hid hL
  have d0 : Db ((w.alloc (.cells d.c 26)).alloc (.cells #[.int .i64 P, .int .i64 I, .int .i64 B] 28)) w.heap.size d := (Ob.new w _).alloc _
  have g0 : Gb ((w.alloc (.cells d.c 26)).alloc (.cells #[.int .i64 P, .int .i64 I, .int .i64 B] 28)) (w.heap.size + 1) P I B := by
    have h := Ob.new (w.alloc (.cells d.c 26)) (.cells #[.int .i64 P, .int .i64 I, .int .i64 B] 28)
    rw [World.size_alloc] at h
    exact h
  have D0 := Lib.hid d0
  have G0 := Lib.hid g0
  have B0 := Lib.hid (on_two w (.cells d.c 26) (.cells #[.int .i64 P, .int .i64 I, .int .i64 B] 28))
  clear hT hn hs hwl hh hL d0 g0 hg
  go_enter Tryd.func11, Tryd.ntmps11
  go_upto_region 1 with (fail)
  generalize (w.alloc (.cells d.c 26)).alloc (.cells #[.int .i64 P, .int .i64 I, .int .i64 B] 28) = W at *
  have n0 := Db.head D0.out
  obtain ⟨c0, c1, c2⟩ := Gb.cells G0.out
  have hl := Ob.lt D0.out
  have hl2 := Ob.lt G0.out
  go_wp2_with (fail)
  refine (HH.out _).mono ?_
  rintro e w1 ⟨rfl, hb⟩
  have D1 := Lib.hid (Ob.on D0.out hb)
  have G1 := Lib.hid (Ob.on G0.out hb)
  have B1 := Lib.hid (B0.out.trans hb)
  have hl3 := Ob.lt G1.out
  have mk := make_two
  clear D0 G0 B0 hb n0 c0 c1 c2 hl hl2 HH
  go_upto_region 5 with (fail)
  have hB2 := Blk.new w1 36 32
  have on2 := on_alloc w1 (.cells (madeCells #[.int .u64 0] 32) 36)
  generalize w1.alloc (.cells (madeCells #[.int .u64 0] 32) 36) = w2 at *
  have b2 := hB2.cell 0 (by simp)
  have f2 := hB2.frozen 0
  have hl4 := hB2.lt
  have hlp : Lp w (w2.setCell ⟨w1.heap.size, 0, none⟩ (.int .u64 (h : Nat))) P I B w1.heap.size 2 32 [h, 0] :=
    ⟨Below.setCell (B1.out.trans on2) (show w.heap.size ≤ w1.heap.size by omega) _, Ob.below (Ob.on G1.out on2) ((Below.refl w1.heap.size w2).setCell (Nat.le_refl _) _) hl3, own_two w2 w1.heap.size h hB2, hl3⟩
  have HLP := Lib.hid hlp
  have hr2 := Db.range (w := w2.setCell ⟨w1.heap.size, 0, none⟩ (.int .u64 (h : Nat))) (g := w.heap.size) (b := d) (Ob.below (Ob.on D1.out on2) ((Below.refl w1.heap.size w2).setCell (Nat.le_refl _) _) (by omega))
  have HR2 := Lib.hid hr2
  clear hB2 on2 hlp hr2 D1 G1 B1 mk
  go_upto_region 6 with (fail)
  clear b2 f2 hl4
  generalize w2.setCell ⟨w1.heap.size, 0, none⟩ (.int .u64 (h : Nat)) = w3 at *
  go_wp2_with (refine wpList_load_mid rfl 24 (.tmp 27) rfl w.heap.size 1 rfl (slcs d.L) _ HR2.out Tryd.underlying24 rfl (by rw [slcs_length, HL.out]; kernel_rfl) ?_)
  have hl5 : w.heap.size + 1 < w3.heap.size := Ob.lt HLP.out.geo
  clear HR2 hl3
  go_loopw [8, 29] (fun a i wr => ∃ k n g c : Nat, i = .int .i64 k ∧ k ≤ 10 ∧ a = .slice (some ⟨g, 0, none⟩) n c ∧ Hid (n = 2 + 3 * k) ∧ Lp w wr P I B g n c (h :: 0 :: blW (d.L.take k))) (fun _ i _ => 10 - (intOf i).toNat)
  case atStart => exact ⟨0, 2, w1.heap.size, 32, rfl, by decide, rfl, Lib.hid rfl, HLP.out⟩
  case round =>
    obtain ⟨k, n, g, c, rfl, hk, rfl, hn, hlp⟩ := hrel
    have HLR := Lib.hid hlp
    clear hlp HLP hl5
    by_cases hk2 : k < 10
    · have hx := HS.out k hk2
      have eI := run_index_slot d.L k (by rw [HL.out]; exact hk2) HL.out
      have ts := Lib.hid (blW_take_succ d.L k (by rw [HL.out]; exact hk2))
      have hlen := slW_length (d.L.getD k zS)
      have hm : mayB (d.L.getD k zS) P I B = true := by unfold mayB; rw [decide_eq_true HGK.out, hx]; rfl
      generalize d.L.getD k zS = x at *
      have hs1 : Sb (wr.alloc (.cells #[.int .i64 x.I, .int .u8 x.K, .string x.S] 23)) wr.heap.size x := Ob.new _ _
      have ho1 := on_alloc wr (.cells #[.int .i64 x.I, .int .u8 x.K, .string x.S] 23)
      have HL1 := Lib.hid (HLR.out.on' ho1)
      have HS1 := Lib.hid hs1
      have HLEN := Lib.hid hlen
      clear hs1 ho1 HLR hlen hx
      go_upto_region 9 with (fail)
      generalize wr.alloc (.cells #[.int .i64 x.I, .int .u8 x.K, .string x.S] 23) = wa at *
      obtain ⟨x0, x1, x2⟩ := Sb.cells HS1.out
      obtain ⟨g0, g1, g2⟩ := Gb.cells HL1.out.geo
      have l1 := Ob.lt HS1.out
      have l2 := Ob.lt HL1.out.geo
      go_wp2_with (fail)
      refine (encode_ok x P I B _ hm (HT.out.below HL1.out.on)).mono ?_
      rintro e wb ⟨gi, rfl, hI, hge, hon⟩
      have HL2 := Lib.hid (HL1.out.on' hon)
      have HI := Lib.hid hI
      clear x0 x1 x2 g0 g1 g2 l1 l2 HL1 HS1 hI hge hon eI
      go_upto_region 12 with (fail)
      have hn2 := hn.out
      have hrow := Blk.row HI.out
      have hcel : ∀ j u, (wv (slW x))[j]? = some u → wb.cell? ((⟨gi, 0, none⟩ : Addr).add j) = some u := fun j u hu => by
        have hj : j < (slW x).length := by
          rcases Nat.lt_or_ge j (slW x).length with h | h
          · exact h
          · rw [List.getElem?_eq_none (by rw [wv_length]; exact h)] at hu; cases hu
        rw [wv_get _ j hj] at hu
        rw [add_zero_block, HI.out.cell j hj]; exact hu
      have HCEL := Lib.hid hcel
      have h63 : n + 3 ≤ maxLen := by unfold maxLen; omega
      have hby : (n + 3) * 8 ≤ 140737488355328 := by omega
      obtain ⟨i0, hi0, hz0, hs0, hb0⟩ := info_parts u64_info
      have HI0 := Lib.hid hi0
      have HZ0 := Lib.hid hz0
      have HS0 := Lib.hid hs0
      have HB0 := Lib.hid hb0
      clear hrow hcel hn2 hi0 hz0 hs0 hb0
      go_wp2_with (at_builtin; refine wpList_append_r rfl (.tmp 41) (.tmp 42) 31 rfl 36 i0 (.int .u64 0) 1 8 Tryd.underlying31 HI0.out HZ0.out HS0.out HB0.out rfl (some ⟨g, 0, none⟩) n c _ rfl HL2.out.own ⟨gi, 0, none⟩ 3 3 (wv (slW x)) rfl (by rw [wv_length, HLEN.out]) HCEL.out (wv_one _) (by decide) h63 hby ?_; intro g' c' w' q2 q3 q4)
      have hn2 := hn.out
      go_roundw
      case rel =>
        refine ⟨k + 1, n + 3, g', c', by go_num, by omega, rfl, Lib.hid (by omega), ?_⟩
        rw [ts.out]
        exact HL2.out.grow q2 q3 q4
      case measure => simp [intOf]; omega
    · obtain rfl : k = 10 := by omega
      have hn2 := hn.out
      obtain rfl : n = 32 := by omega
      have hfin : GivesBlock wl w (.returned (.tuple #[.slice (some ⟨g, 0, none⟩) 32 c, .int .i64 0])) wr := by
        have ho := HLR.out.own
        have hf := HLR.out.far
        rw [List.take_of_length_le (by rw [HL.out]; decide), ← HHH.out] at ho
        rw [← HWL.out]
        exact ⟨g, c, rfl, ho, by omega, HLR.out.on⟩
      have HF := Lib.hid hfin
      clear hfin HLR hn2
      go_wp2_with (fail)
      go_ret2
      exact HF.out
set_option maxRecDepth 100000 in
set_option maxHeartbeats 4000000 in
theorem block_slot (d : Dbl) (P I B : Int) (w : World) (hL : d.L.length = 10) (hn : nextB d.N P I B = true) (hg : GOK P I B) (hs : ∃ k, k < 10 ∧ okS (d.L.getD k zS) I = false) (hT : TabAt w) (h : Nat) (hh : headN d.N = h) :
    Calls Tryd.prog 11 #[d.v, gv P I B] w fun e w' => e = .returned (.tuple #[.slice none 0 0, .int .i64 2]) ∧ On w w' := by
  have HT := Lib.hid hT
  have HH := Lib.hid (fun W => head_ok d.N P I B W hn)
  rw [hh] at HH
  have HS := Lib.hid hs
  have HGK := Lib.hid hg
  have HHH := Lib.hid hh
  have HL := Lib.hid hL
  have d0 : Db ((w.alloc (.cells d.c 26)).alloc (.cells #[.int .i64 P, .int .i64 I, .int .i64 B] 28)) w.heap.size d := (Ob.new w _).alloc _
  have g0 : Gb ((w.alloc (.cells d.c 26)).alloc (.cells #[.int .i64 P, .int .i64 I, .int .i64 B] 28)) (w.heap.size + 1) P I B := by
    have h := Ob.new (w.alloc (.cells d.c 26)) (.cells #[.int .i64 P, .int .i64 I, .int .i64 B] 28)
    rw [World.size_alloc] at h
    exact h
  have D0 := Lib.hid d0
  have G0 := Lib.hid g0
  have B0 := Lib.hid (on_two w (.cells d.c 26) (.cells #[.int .i64 P, .int .i64 I, .int .i64 B] 28))
  clear hT hn hs hh hL d0 g0 hg
  go_enter Tryd.func11, Tryd.ntmps11
  go_upto_region 1 with (fail)
  generalize (w.alloc (.cells d.c 26)).alloc (.cells #[.int .i64 P, .int .i64 I, .int .i64 B] 28) = W at *
  have n0 := Db.head D0.out
  obtain ⟨c0, c1, c2⟩ := Gb.cells G0.out
  have hl := Ob.lt D0.out
  have hl2 := Ob.lt G0.out
  go_wp2_with (fail)
  refine (HH.out _).mono ?_
  rintro e w1 ⟨rfl, hb⟩
  have D1 := Lib.hid (Ob.on D0.out hb)
  have G1 := Lib.hid (Ob.on G0.out hb)
  have B1 := Lib.hid (B0.out.trans hb)
  have hl3 := Ob.lt G1.out
  have mk := make_two
  clear D0 G0 B0 hb n0 c0 c1 c2 hl hl2 HH
  go_upto_region 5 with (fail)
  have hB2 := Blk.new w1 36 32
  have on2 := on_alloc w1 (.cells (madeCells #[.int .u64 0] 32) 36)
  generalize w1.alloc (.cells (madeCells #[.int .u64 0] 32) 36) = w2 at *
  have b2 := hB2.cell 0 (by simp)
  have f2 := hB2.frozen 0
  have hl4 := hB2.lt
  have hlp : Lp w (w2.setCell ⟨w1.heap.size, 0, none⟩ (.int .u64 (h : Nat))) P I B w1.heap.size 2 32 [h, 0] :=
    ⟨Below.setCell (B1.out.trans on2) (show w.heap.size ≤ w1.heap.size by omega) _, Ob.below (Ob.on G1.out on2) ((Below.refl w1.heap.size w2).setCell (Nat.le_refl _) _) hl3, own_two w2 w1.heap.size h hB2, hl3⟩
  have HLP := Lib.hid hlp
  have hr2 := Db.range (w := w2.setCell ⟨w1.heap.size, 0, none⟩ (.int .u64 (h : Nat))) (g := w.heap.size) (b := d) (Ob.below (Ob.on D1.out on2) ((Below.refl w1.heap.size w2).setCell (Nat.le_refl _) _) (by omega))
  have HR2 := Lib.hid hr2
  clear hB2 on2 hlp hr2 D1 G1 B1 mk
  go_upto_region 6 with (fail)
  clear b2 f2 hl4
  generalize w2.setCell ⟨w1.heap.size, 0, none⟩ (.int .u64 (h : Nat)) = w3 at *
  go_wp2_with (refine wpList_load_mid rfl 24 (.tmp 27) rfl w.heap.size 1 rfl (slcs d.L) _ HR2.out Tryd.underlying24 rfl (by rw [slcs_length, HL.out]; kernel_rfl) ?_)
  have hl5 : w.heap.size + 1 < w3.heap.size := Ob.lt HLP.out.geo
  clear HR2 hl3
  go_loopw [8, 29] (fun a i wr => ∃ k n g c : Nat, i = .int .i64 k ∧ k ≤ 10 ∧ a = .slice (some ⟨g, 0, none⟩) n c ∧ Hid (n = 2 + 3 * k) ∧ Hid (∀ j, j < k → okS (d.L.getD j zS) I = true) ∧ Lp w wr P I B g n c (h :: 0 :: blW (d.L.take k))) (fun _ i _ => 10 - (intOf i).toNat)
  case atStart => exact ⟨0, 2, w1.heap.size, 32, rfl, by decide, rfl, Lib.hid rfl, Lib.hid (fun j hj => absurd hj (Nat.not_lt_zero _)), HLP.out⟩
  case round =>
    obtain ⟨k, n, g, c, rfl, hk, rfl, hn, hok, hlp⟩ := hrel
    have HLR := Lib.hid hlp
    clear hlp HLP hl5
    by_cases hk2 : k < 10
    · cases hx : okS (d.L.getD k zS) I with
      | true =>
        have eI := run_index_slot d.L k (by rw [HL.out]; exact hk2) HL.out
        have ts := Lib.hid (blW_take_succ d.L k (by rw [HL.out]; exact hk2))
        have hlen := slW_length (d.L.getD k zS)
        have hm : mayB (d.L.getD k zS) P I B = true := by unfold mayB; rw [decide_eq_true HGK.out, hx]; rfl
        have hok2 := Lib.hid (show ∀ j, j < k + 1 → okS (d.L.getD j zS) I = true from fun j hj => by
          by_cases h : j < k
          · exact hok.out j h
          · obtain rfl : j = k := by omega
            exact hx)
        clear hok
        generalize d.L.getD k zS = x at *
        have hs1 : Sb (wr.alloc (.cells #[.int .i64 x.I, .int .u8 x.K, .string x.S] 23)) wr.heap.size x := Ob.new _ _
        have ho1 := on_alloc wr (.cells #[.int .i64 x.I, .int .u8 x.K, .string x.S] 23)
        have HL1 := Lib.hid (HLR.out.on' ho1)
        have HS1 := Lib.hid hs1
        have HLEN := Lib.hid hlen
        clear hs1 ho1 HLR hlen hx
        go_upto_region 9 with (fail)
        generalize wr.alloc (.cells #[.int .i64 x.I, .int .u8 x.K, .string x.S] 23) = wa at *
        obtain ⟨x0, x1, x2⟩ := Sb.cells HS1.out
        obtain ⟨g0, g1, g2⟩ := Gb.cells HL1.out.geo
        have l1 := Ob.lt HS1.out
        have l2 := Ob.lt HL1.out.geo
        go_wp2_with (fail)
        refine (encode_ok x P I B _ hm (HT.out.below HL1.out.on)).mono ?_
        rintro e wb ⟨gi, rfl, hI, hge, hon⟩
        have HL2 := Lib.hid (HL1.out.on' hon)
        have HI := Lib.hid hI
        clear x0 x1 x2 g0 g1 g2 l1 l2 HL1 HS1 hI hge hon eI
        go_upto_region 12 with (fail)
        have hn2 := hn.out
        have hrow := Blk.row HI.out
        have hcel : ∀ j u, (wv (slW x))[j]? = some u → wb.cell? ((⟨gi, 0, none⟩ : Addr).add j) = some u := fun j u hu => by
          have hj : j < (slW x).length := by
            rcases Nat.lt_or_ge j (slW x).length with h | h
            · exact h
            · rw [List.getElem?_eq_none (by rw [wv_length]; exact h)] at hu; cases hu
          rw [wv_get _ j hj] at hu
          rw [add_zero_block, HI.out.cell j hj]; exact hu
        have HCEL := Lib.hid hcel
        have h63 : n + 3 ≤ maxLen := by unfold maxLen; omega
        have hby : (n + 3) * 8 ≤ 140737488355328 := by omega
        obtain ⟨i0, hi0, hz0, hs0, hb0⟩ := info_parts u64_info
        have HI0 := Lib.hid hi0
        have HZ0 := Lib.hid hz0
        have HS0 := Lib.hid hs0
        have HB0 := Lib.hid hb0
        clear hrow hcel hn2 hi0 hz0 hs0 hb0
        go_wp2_with (at_builtin; refine wpList_append_r rfl (.tmp 41) (.tmp 42) 31 rfl 36 i0 (.int .u64 0) 1 8 Tryd.underlying31 HI0.out HZ0.out HS0.out HB0.out rfl (some ⟨g, 0, none⟩) n c _ rfl HL2.out.own ⟨gi, 0, none⟩ 3 3 (wv (slW x)) rfl (by rw [wv_length, HLEN.out]) HCEL.out (wv_one _) (by decide) h63 hby ?_; intro g' c' w' q2 q3 q4)
        have hn2 := hn.out
        go_roundw
        case rel =>
          refine ⟨k + 1, n + 3, g', c', by go_num, by omega, rfl, Lib.hid (by omega), hok2, ?_⟩
          rw [ts.out]
          exact HL2.out.grow q2 q3 q4
        case measure => simp [intOf]; omega
      | false =>
        have eI := run_index_slot d.L k (by rw [HL.out]; exact hk2) HL.out
        have hm : mayB (d.L.getD k zS) P I B = false := by unfold mayB; rw [hx, Bool.and_false]
        generalize d.L.getD k zS = x at *
        have hs1 : Sb (wr.alloc (.cells #[.int .i64 x.I, .int .u8 x.K, .string x.S] 23)) wr.heap.size x := Ob.new _ _
        have ho1 := on_alloc wr (.cells #[.int .i64 x.I, .int .u8 x.K, .string x.S] 23)
        have HL1 := Lib.hid (HLR.out.on' ho1)
        have HS1 := Lib.hid hs1
        clear hs1 ho1 HLR hx
        go_upto_region 9 with (fail)
        generalize wr.alloc (.cells #[.int .i64 x.I, .int .u8 x.K, .string x.S] 23) = wa at *
        obtain ⟨x0, x1, x2⟩ := Sb.cells HS1.out
        obtain ⟨g0, g1, g2⟩ := Gb.cells HL1.out.geo
        have l1 := Ob.lt HS1.out
        have l2 := Ob.lt HL1.out.geo
        go_wp2_with (fail)
        refine (encode_bad x P I B _ hm).mono ?_
        rintro e wb ⟨rfl, hon⟩
        have hfin := HL1.out.on.trans hon
        clear x0 x1 x2 g0 g1 g2 l1 l2 HL1 HS1 hon eI
        go_wp2_with (fail)
        go_ret2
        exact ⟨rfl, hfin⟩
    · obtain rfl : k = 10 := by omega
      obtain ⟨j, hj, hb⟩ := HS.out
      rw [hok.out j hj] at hb
      cases hb
theorem block_next (d : Dbl) (P I B : Int) (w : World) (hn : nextB d.N P I B = false) :
    Calls Tryd.prog 11 #[d.v, gv P I B] w fun e w' => e = .returned (.tuple #[.slice none 0 0, .int .i64 2]) ∧ On w w' := by
  have HH := Lib.hid (fun W => head_bad d.N P I B W hn)
  have d0 : Db ((w.alloc (.cells d.c 26)).alloc (.cells #[.int .i64 P, .int .i64 I, .int .i64 B] 28)) w.heap.size d := (Ob.new w _).alloc _
  have g0 : Gb ((w.alloc (.cells d.c 26)).alloc (.cells #[.int .i64 P, .int .i64 I, .int .i64 B] 28)) (w.heap.size + 1) P I B := by
    have h := Ob.new (w.alloc (.cells d.c 26)) (.cells #[.int .i64 P, .int .i64 I, .int .i64 B] 28)
    rw [World.size_alloc] at h
    exact h
  have D0 := Lib.hid d0
  have G0 := Lib.hid g0
  have B0 := Lib.hid (on_two w (.cells d.c 26) (.cells #[.int .i64 P, .int .i64 I, .int .i64 B] 28))
  clear hn d0 g0
  go_enter Tryd.func11, Tryd.ntmps11
  go_upto_region 1 with (fail)
  generalize (w.alloc (.cells d.c 26)).alloc (.cells #[.int .i64 P, .int .i64 I, .int .i64 B] 28) = W at *
  have n0 := Db.head D0.out
  obtain ⟨c0, c1, c2⟩ := Gb.cells G0.out
  have hl := Ob.lt D0.out
  have hl2 := Ob.lt G0.out
  go_wp2_with (fail)
  refine (HH.out _).mono ?_
  rintro e w1 ⟨rfl, hb⟩
  have B1 := B0.out.trans hb
  clear D0 G0 B0 hb n0 c0 c1 c2 hl hl2 HH
  go_wp2_with (fail)
  go_ret2
  exact ⟨rfl, B1⟩
/-- What Block hands back. -/
theorem block_calls (d : Dbl) (P I B : Int) (w : World) (hL : d.L.length = 10) (hm : mayD d P I B = true) (hT : TabAt w) : Calls Tryd.prog 11 #[d.v, gv P I B] w (GivesBlock (dW d) w) := by
  unfold mayD okD at hm
  simp only [Bool.and_eq_true, decide_eq_true_eq, List.all_eq_true] at hm
  obtain ⟨hg, hn, ho⟩ := hm
  refine block_good d P I B w hL ?_ hg (fun k hk => ?_) hT _ rfl _ rfl
  · unfold nextB; rw [decide_eq_true hg, decide_eq_true hn]; rfl
  · rw [List.getD_eq_getElem?_getD, List.getElem?_eq_getElem (by omega), Option.getD_some]
    exact ho _ (List.getElem_mem _)
theorem block_bad (d : Dbl) (P I B : Int) (w : World) (hL : d.L.length = 10) (hm : mayD d P I B = false) (hT : TabAt w) : Calls Tryd.prog 11 #[d.v, gv P I B] w fun e w' => e = .returned (.tuple #[.slice none 0 0, .int .i64 2]) ∧ On w w' := by
  cases hn : nextB d.N P I B with
  | false => exact block_next d P I B w hn
  | true =>
    have hn2 := hn
    unfold nextB at hn2
    simp only [Bool.and_eq_true, decide_eq_true_eq] at hn2
    refine block_slot d P I B w hL hn hn2.1 ?_ hT _ rfl
    refine Classical.byContradiction fun h0 => ?_
    have : mayD d P I B = true := by
      unfold mayD okD
      simp only [Bool.and_eq_true, decide_eq_true_eq, List.all_eq_true]
      refine ⟨hn2.1, hn2.2, fun x hx => ?_⟩
      obtain ⟨k, hk, rfl⟩ := List.getElem_of_mem hx
      cases hb : okS d.L[k] I with
      | true => rfl
      | false =>
        refine absurd ⟨k, by omega, ?_⟩ h0
        rw [List.getD_eq_getElem?_getD, List.getElem?_eq_getElem hk, Option.getD_some]
        exact hb
    rw [this] at hm
    cases hm
end Go.Proofs.YtipghcpodhokbaaDoor
