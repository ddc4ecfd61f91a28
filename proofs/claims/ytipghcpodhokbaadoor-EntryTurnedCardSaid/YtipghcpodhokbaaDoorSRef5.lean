/- The document's own words of a block. -/
import Derived.Test.YtipghcpodhokbaaDoorSRef4
set_option linter.unusedSimpArgs false
set_option linter.unusedVariables false
namespace Go.Proofs.YtipghcpodhokbaaDoor
open Go.RowKit WordMath SumMath
/-- The loop: the words of the first k slots lie in a row of the call's own. -/
structure Lq (w0 wr : World) (d : Dbl) (g n c : Nat) (l : List Nat) : Prop where
  on : On w0 wr
  blk : Db wr w0.heap.size d
  own : OwnR wr 36 1 (some ⟨g, 0, none⟩) n c (wv l)
  far : w0.heap.size < g
theorem Lq.on' {w0 wr w' : World} {d : Dbl} {g n c : Nat} {l : List Nat} (h : Lq w0 wr d g n c l) (hb : On wr w') : Lq w0 w' d g n c l :=
  ⟨h.on.trans hb, Ob.on h.blk hb, h.own.keep fun ad e => Below.block hb _ (h.own.lt ad e), h.far⟩
theorem Lq.grow {w0 wr w' : World} {d : Dbl} {g n c : Nat} {l m : List Nat} (h : Lq w0 wr d g n c l) {g' k c' : Nat} (h2 : OwnR w' 36 1 (some ⟨g', 0, none⟩) k c' (wv l ++ wv m)) (h3 : wr.grownBy w' (some g)) (h4 : (some (⟨g, 0, none⟩ : Addr)) = some ⟨g', 0, none⟩ ∨ g' = wr.heap.size) : Lq w0 w' d g' k c' (l ++ m) := by
  have hf := h.far
  have hl := Ob.lt h.blk
  refine ⟨Below.grown h.on h3 (Below.size h.on) (fun j e => by injection e with e; omega), (h3.block _ hl (fun e => by injection e with e; omega)).trans h.blk, by rw [wv_append]; exact h2, ?_⟩
  rcases h4 with h4 | h4
  · injection h4 with h4
    injection h4 with h4 _ _
    omega
  · omega
/-- What the document's Block hands back. -/
def GivesBlockR (l : List Nat) (w : World) (e : Ending) (w' : World) : Prop :=
  ∃ g c, e = .returned (.slice (some ⟨g, 0, none⟩) 32 c) ∧ OwnR w' 36 1 (some ⟨g, 0, none⟩) 32 c (wv l) ∧ w.heap.size ≤ g ∧ On w w'
theorem own_new2 (w : World) (h : Nat) : OwnR (w.alloc (.cells #[.int .u64 (h : Nat), .int .u64 0] 36)) 36 1 (some ⟨w.heap.size, 0, none⟩) 2 2 (wv [h, 0]) :=
  ⟨by simp [wv], by decide, by unfold maxLen; decide, .inr ⟨w.heap.size, _, rfl, heap_alloc_new w _, by simp, rfl⟩⟩
set_option maxRecDepth 100000 in
set_option maxHeartbeats 4000000 in
theorem rblock_go (d : Dbl) (I : Int) (w : World) (hL : d.L.length = 10) (hI : I ≤ 64) (m : Nat) (hm : d.N = (m : Nat)) (hm2 : m < 256) (hs : ∀ k, k < 10 → okS (d.L.getD k zS) I = true) (wl : List Nat) (hwl : dW d = wl) (h : Nat) (hh : headN d.N = h) :
    Calls Tryd.prog 20 #[d.v] w (GivesBlockR wl w) := by
  have HH := Lib.hid (fun W => rhead_calls m W hm2)
  rw [← hm, hh] at HH
  have HS := Lib.hid hs
  have HWL := Lib.hid hwl
  have HHH := Lib.hid hh
  have HL := Lib.hid hL
  have D0 := Lib.hid (show Db (w.alloc (.cells d.c 26)) w.heap.size d from Ob.new w _)
  have B0 := Lib.hid (on_alloc w (.cells d.c 26))
  clear hs hwl hh hL hm hm2
  go_enter Tryd.func20, Tryd.ntmps20
  go_upto_region 1 with (fail)
  generalize w.alloc (.cells d.c 26) = W at *
  have n0 := Db.head D0.out
  have hl := Ob.lt D0.out
  go_wp2_with (fail)
  refine (HH.out _).mono ?_
  rintro e w1 ⟨rfl, rfl⟩
  clear n0 hl HH
  have hlq : Lq w (W.alloc (.cells #[.int .u64 (h : Nat), .int .u64 0] 36)) d W.heap.size 2 2 [h, 0] :=
    ⟨B0.out.trans (on_alloc W _), D0.out.alloc _, own_new2 W h, Ob.lt D0.out⟩
  have HLQ := Lib.hid hlq
  clear hlq D0 B0
  go_upto_region 2 with (fail)
  generalize W.alloc (.cells #[.int .u64 (h : Nat), .int .u64 0] 36) = W2 at *
  generalize W.heap.size = gg at *
  go_wp2_with (fail)
  go_loopw [3, 4] (fun a i wr => ∃ k n g c : Nat, i = .int .i64 k ∧ k ≤ 10 ∧ a = .slice (some ⟨g, 0, none⟩) n c ∧ Hid (n = 2 + 3 * k) ∧ Lq w wr d g n c (h :: 0 :: blW (d.L.take k))) (fun _ i _ => 10 - (intOf i).toNat)
  case atStart => exact ⟨0, 2, gg, 2, rfl, by decide, rfl, Lib.hid rfl, HLQ.out⟩
  case round =>
    obtain ⟨k, n, g, c, rfl, hk, rfl, hn, hlp⟩ := hrel
    have HLR := Lib.hid hlp
    clear hlp HLQ
    by_cases hk2 : k < 10
    · have hx := HS.out k hk2
      obtain ⟨x0, x1, x2⟩ := Db.cells HLR.out.blk k (by rw [HL.out]; exact hk2)
      have ts := Lib.hid (blW_take_succ d.L k (by rw [HL.out]; exact hk2))
      have hlen := slW_length (d.L.getD k zS)
      generalize d.L.getD k zS = x at *
      have HX := Lib.hid hx
      have HLEN := Lib.hid hlen
      have hl := Ob.lt HLR.out.blk
      clear hx hlen
      go_upto_region 5 with (fail)
      go_wp2_with (fail)
      refine (rencode_calls x _ I hI HX.out).mono ?_
      rintro e wb ⟨gi, rfl, hI', hge, hon⟩
      have HL2 := Lib.hid (HLR.out.on' hon)
      have HI := Lib.hid hI'
      clear x0 x1 x2 hl HLR hI' hge hon
      have hn2 := hn.out
      have hcel : ∀ j u, (wv (slW x))[j]? = some u → wb.cell? ((⟨gi, 0, none⟩ : Addr).add j) = some u := fun j u hu => by
        have hj : j < (slW x).length := by
          rcases Nat.lt_or_ge j (slW x).length with h | h
          · exact h
          · rw [List.getElem?_eq_none (by rw [wv_length]; exact h)] at hu; cases hu
        rw [wv_get _ j hj] at hu
        rw [add_zero_block, HI.out.cell j hj]; exact hu
      have HCEL := Lib.hid hcel
      have h63 : n + 3 ≤ maxLen := by unfold maxLen; omega
      have hby : (n + 3) * 8 ≤ 140737488355328 := by omega
      obtain ⟨i0, hi0, hz0, hs0, hb0⟩ := info_parts u64_info
      have HI0 := Lib.hid hi0
      have HZ0 := Lib.hid hz0
      have HS0 := Lib.hid hs0
      have HB0 := Lib.hid hb0
      clear hcel hn2 hi0 hz0 hs0 hb0
      go_wp2_with (at_builtin; refine wpList_append_r rfl (.tmp 13) (.tmp 18) 31 rfl 36 i0 (.int .u64 0) 1 8 Tryd.underlying31 HI0.out HZ0.out HS0.out HB0.out rfl (some ⟨g, 0, none⟩) n c _ rfl HL2.out.own ⟨gi, 0, none⟩ 3 3 (wv (slW x)) rfl (by rw [wv_length, HLEN.out]) HCEL.out (wv_one _) (by decide) h63 hby ?_; intro g' c' w' q2 q3 q4)
      have hn2 := hn.out
      go_roundw
      case rel =>
        refine ⟨k + 1, n + 3, g', c', by go_num, by omega, rfl, Lib.hid (by omega), ?_⟩
        rw [ts.out]
        exact HL2.out.grow q2 q3 q4
      case measure => simp [intOf]; omega
    · obtain rfl : k = 10 := by omega
      have hn2 := hn.out
      obtain rfl : n = 32 := by omega
      have hfin : GivesBlockR wl w (.returned (.slice (some ⟨g, 0, none⟩) 32 c)) wr := by
        have ho := HLR.out.own
        have hf := HLR.out.far
        rw [List.take_of_length_le (by rw [HL.out]; decide), ← HHH.out] at ho
        rw [← HWL.out]
        exact ⟨g, c, rfl, ho, by omega, HLR.out.on⟩
      have HF := Lib.hid hfin
      clear hfin HLR hn2
      go_wp2_with (fail)
      go_ret
      exact HF.out
/-- What the document's Block hands back. -/
theorem rblock_calls (d : Dbl) (P I B : Int) (w : World) (hL : d.L.length = 10) (hm : mayD d P I B = true) : Calls Tryd.prog 20 #[d.v] w (GivesBlockR (dW d) w) := by
  unfold mayD okD at hm
  simp only [Bool.and_eq_true, decide_eq_true_eq, List.all_eq_true] at hm
  obtain ⟨hg, hn, ho⟩ := hm
  have hB : B ≤ 255 := hg.2.2.2
  have hI : I ≤ 64 := hg.2.1.2
  refine rblock_go d I w hL hI d.N.toNat (by omega) (by omega) (fun k hk => ?_) _ rfl _ rfl
  rw [List.getD_eq_getElem?_getD, List.getElem?_eq_getElem (by omega), Option.getD_some]
  exact ho _ (List.getElem_mem _)
end Go.Proofs.YtipghcpodhokbaaDoor
