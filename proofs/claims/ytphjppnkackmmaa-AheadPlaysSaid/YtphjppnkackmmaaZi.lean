/- The program's List: what the map holds, collected and sorted. -/
import Derived.Test.YtphjppnkackmmaaZc
import Derived.Test.YtphjppnkackmmaaZh
set_option linter.unusedSimpArgs false
set_option linter.unusedVariables false
namespace Go.Proofs.Ytphjppnkackmmaa
open Go Go.Maps Go.RowKit SumMath WordMath
/-- An entry that has come is one of the table's. -/
theorem coll_entry {D : DataW Unit} {T : List Re} (m : MapIs D T) {x c : Int} (hat : ∀ z, D.atKey (kI x) z = .lit (.int .u64 c)) : ∃ wd : Nat, c = (wd : Int) ∧ ⟨x, wd⟩ ∈ T := by
  have hh := Maps.has_true_of_atKey hat
  rw [m.has] at hh
  unfold hasT at hh
  obtain ⟨wd, hw⟩ := Option.isSome_iff_exists.1 hh
  have := hat .nil
  rw [m.at' x wd _ hw] at this
  injection this with this
  injection this with _ this
  exact ⟨wd, this.symm, lk_mem hw⟩
theorem ranges_ne {w : World} {b r n : Nat} {D : DataW Unit} {left : Lit → Bool} {cnt : Nat} (h : w.ranges Try.prog 3 (plainElem Try.prog 31) b r n D left cnt) {A : Option Addr} {m c : Nat} {xs : List Value} (ho : OwnR w 38 2 A m c xs) :
    some b ≠ A.map (·.block) ∧ some r ≠ A.map (·.block) := by
  obtain ⟨_, _, _, _, _, hb, _, _, _, hr, _⟩ := h
  rcases ho with ⟨_, _, _, h4⟩
  rcases h4 with ⟨h4, _⟩ | ⟨gg, cur, h4, hgg, _⟩
  · subst h4
    exact ⟨fun e => (by cases e), fun e => (by cases e)⟩
  · subst h4
    refine ⟨fun e => ?_, fun e => ?_⟩
    · injection e with e
      simp only at e
      rw [e, hgg] at hb
      cases hb
    · injection e with e
      simp only at e
      rw [e, hgg] at hr
      cases hr
def GivesR (T : List Re) (w : World) (e : Ending) (w' : World) : Prop := ∃ A c, e = .returned (.slice A T.length c) ∧ MineR w w' A T.length c T ∧ Below w.heap.size w w'
set_option maxRecDepth 100000 in
set_option maxHeartbeats 1000000 in
theorem list_calls {w : World} {g b : Nat} {T : List Re} (h : Ah w g b T) (hsz : T.length ≤ 1099511627776) : Calls Try.prog 18 #[.pointer (some ⟨g, 0, none⟩)] w (GivesR T w) := by
  have c0 := h.cell
  have hgl := h.ltg
  have hbl := h.ltb
  obtain ⟨D, hown, hm⟩ := h.map
  obtain ⟨n, hTn⟩ : ∃ n, T.length = n := ⟨_, rfl⟩
  have HL := Lib.hid hTn
  have hDn : Maps.size D = n := by rw [hm.size, hTn]
  have HDN := Lib.hid hDn
  rw [hTn] at hown hsz
  have HM := Lib.hid hm
  obtain ⟨i0, hi0, hz0, hs0, hb0⟩ := info_parts redo_info
  have HI := Lib.hid hi0
  have HZ := Lib.hid hz0
  have HS := Lib.hid hs0
  have HB := Lib.hid hb0
  have hmk : ∀ W : World, (Instr.makeSlice 28 (.int .i64 0) (.int .i64 (n : Int))).run Try.prog W = .ok (.slice (some ⟨W.heap.size, 0, none⟩) 0 n) (W.alloc (.cells (madeCells #[.int .i64 0, .int .u64 0] (n * 2)) 38)) := fun W => by
    have := run_make (P := Try.prog) W 28 38 i0 _ Try.underlying28 hi0 hz0 .i64 .i64 0 (n : Int) (by omega) (by omega) (by rw [hb0]; omega) (by omega)
    rw [hs0, Int.toNat_natCast] at this
    exact this
  clear h hm hTn hi0 hz0 hs0 hb0 hDn
  go_enter Try.func18, Try.ntmps18
  go_wp2_with (first
    | (at_len; refine wpList_len_own _ rfl _ 50 rfl 3 31 Try.underlying50 _ b n D rfl hown ?_; rw [HDN.out])
    | (at_range; refine wpList_range_own _ rfl _ 50 rfl 3 31 kInt Try.underlying50 _ b n D rfl (hown.alloc _) ?_; intro w0 hrg0 hg0 hs0)
    | fail)
  go_frame
  obtain ⟨V, hV⟩ : ∃ V, V = w.alloc (.cells (madeCells #[.int .i64 0, .int .u64 0] (n * 2)) 38) := ⟨_, rfl⟩
  have hVr : V.heap[w.heap.size]? = some (.cells (madeCells #[.int .i64 0, .int .u64 0] (n * 2)) 38 (0, 0)) := by rw [hV]; exact heap_alloc_new _ _
  have hbV : Below w.heap.size w V := by rw [hV]; exact (Below.refl _ _).alloc (Nat.le_refl _) _
  have hVs : V.heap.size = w.heap.size + 1 := by rw [hV]; simp
  rw [← hV] at hrg0 hg0 hs0 ⊢
  rw [hVs] at hrg0 hs0 ⊢
  have hb0 : Below w.heap.size w w0 := hbV.grown hg0 (by omega) (fun j hj => by cases hj)
  have hO0 : MineR w w0 (some ⟨w.heap.size, 0, none⟩) 0 n [] := by
    refine ⟨⟨by rfl, Nat.zero_le _, by unfold maxLen; omega, .inr ⟨w.heap.size, _, rfl, (hg0.block w.heap.size (by omega) (by simp)).trans hVr, ?_, ?_⟩⟩, fun ad e => ?_⟩
    · rw [size_madeCells]; exact Nat.le_refl _
    · rw [Nat.zero_mul, List.take_zero]; rfl
    · injection e with e; subst e; exact Nat.le_refl _
  have HRG0 := Lib.hid hrg0
  have HB0 := Lib.hid hb0
  have HO0 := Lib.hid hO0
  clear hV hVr hbV hVs hg0 hs0 hrg0 hb0 hO0
  go_loopw [3] (fun l wr => ∃ (left : Lit → Bool) (cnt m : Nat) (C : List Re) (R : Option Addr) (cr : Nat), l = .slice R m cr ∧ Hid (wr.ranges Try.prog 3 (plainElem Try.prog 31) b (w.heap.size + 1) n D left cnt) ∧ m + cnt ≤ n ∧ Hid (Coll T left C) ∧ Hid (C.length = m) ∧ Hid (MineR w wr R m cr C) ∧ Hid (Below w.heap.size w wr)) (fun _ wr => wr.rangeLeft b (w.heap.size + 1))
  case atStart => exact ⟨_, _, 0, [], _, n, rfl, HRG0, by rw [HDN.out]; omega, Lib.hid (Coll.start HM.out), rfl, HO0, HB0⟩
  case round =>
    obtain ⟨left, cnt, m, C, R, cr, rfl, hrg, hmc, hC, hCm, hO, hB⟩ := hrel
    go_wp2_with (first
      | (at_next; refine wpList_next_ranges_ii _ rfl _ rfl 3 31 .i64 .u64 kInt Try.underlying3 Try.underlying31 b (w.heap.size + 1) n D left cnt rfl hrg.out ?_ ?_)
      | fail)
    · intro hc0 hl0
      replace hl0 := Lib.hid hl0
      have hcon := Lib.hid (sort_calls hO.out hCm.out (by omega))
      clear hmk
      go_wp2_with (go_at_call 20; refine hcon.out.mono ?_; rintro e w' ⟨rfl, L, hp, hs, hM, ho⟩; replace hp := Lib.hid hp; replace hs := Lib.hid hs; replace hM := Lib.hid hM; replace ho := Lib.hid ho)
      go_ret
      have e : L = T := hC.out.done HM.out.rise hl0.out hp.out hs.out
      have hlen : m = n := by rw [← hCm.out, ← HL.out, ← e]; exact hp.out.length_eq.symm
      subst hlen
      subst e
      refine ⟨R, cr, by rw [HL.out]; rfl, by rw [HL.out]; exact hM.out, hB.out.trans (ho.out.below hB.out.size fun i hi => ?_)⟩
      obtain ⟨ad, e, rfl⟩ := hi
      exact hO.out.2 ad e
    · intro x c w1 cnt1 hwx hwc hlx hat hrg1 hlt hg1 hs1 hen
      obtain ⟨wd, rfl, hmem⟩ := coll_entry HM.out hat
      have hstep := Lib.hid (hC.out.step HM.out hlx hmem)
      have hB1 : Below w.heap.size w w1 := hB.out.grown hg1 hB.out.size (fun j hj => by injection hj with hj; omega)
      have hO1 : MineR w w1 R m cr C := ⟨hO.out.1.keep fun ad e => hg1.block ad.block (hO.out.1.lt ad e) (fun h => (ranges_ne hrg.out hO.out.1).2 (by rw [e, ← h]; rfl)), hO.out.2⟩
      have HRG1 := Lib.hid hrg1
      have HLT := Lib.hid hlt
      have HB1 := Lib.hid hB1
      have HO1 := Lib.hid hO1
      have hsz1 := hB1.size
      clear hmk hat hwx hwc hlx hrg1 hB1 hO1 hg1 hmem hs1
      go_wp2_with (first
        | (at_builtin; refine wpList_append_r rfl (.tmp 24) (.tmp 28) 28 rfl 38 i0 _ 2 16 Try.underlying28 HI.out HZ.out HS.out HB.out rfl R m cr (ev C) rfl (HO1.out.1.keep fun ad e => Below.heap_alloc _ _ _ (HO1.out.1.lt ad e)) ⟨w1.heap.size, 0, none⟩ 1 1 (ev [⟨x, wd⟩]) rfl rfl (cells_re (heap_alloc_new _ _)) (ev_one _) (by decide) (by unfold maxLen; omega) (by omega) ?_; intro g2 c2 w2 hO2 hG2 hE2)
        | fail)
      obtain ⟨hM2, hb2⟩ := MineR.step (by simp; omega) HO1.out.2 (HB1.out.alloc HB1.out.size _) hO2 hG2 hE2 rfl
      have hrg2 := (HRG1.out.alloc (.cells #[.int .i64 x, .int .u64 (wd : Int)] 38)).kept hG2 (ranges_ne HRG1.out HO1.out.1).1 (ranges_ne HRG1.out HO1.out.1).2
      go_roundw
      case rel => exact ⟨_, cnt1, m + 1, C ++ [⟨x, wd⟩], _, c2, rfl, Lib.hid hrg2, by have := HLT.out; omega, hstep, Lib.hid (by rw [List.length_append]; rw [hCm.out]; rfl), Lib.hid hM2, Lib.hid hb2⟩
      case measure => rw [hrg2.left_eq, hrg.out.left_eq]; exact HLT.out
end Go.Proofs.Ytphjppnkackmmaa
