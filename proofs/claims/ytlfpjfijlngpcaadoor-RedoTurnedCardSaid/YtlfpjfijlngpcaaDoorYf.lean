/- The program's Read of a slot. -/
import Derived.Test.YtlfpjfijlngpcaaDoorYe
set_option linter.unusedSimpArgs false
set_option linter.unusedVariables false
namespace Go.Proofs.YtlfpjfijlngpcaaDoor
open Go.RowKit SumMath WordMath Go.Sort
theorem and_255 (v : Nat) (h : v < 18446744073709551616) : bits .and .u64 (v : Int) 255 = ((v % 256 : Nat) : Int) := by
  rw [show (255 : Int) = ((255 : Nat) : Int) from rfl, u64_and_nat _ _ h (by omega)]
  congr 1
  exact Nat.and_two_pow_sub_one_eq_mod v 8
theorem body_sub_len (s : List Nat) (n : Nat) : (bodyL (decL s n)).length = 2 * n := by rw [body_len, dec_len]
theorem body_sub_at (s : List Nat) (n i : Nat) (h : i < 2 * n) : (bodyL (decL s n)).getD i 0 = s.getD (8 + i) 0 := by
  rw [body_dec, List.getD_eq_getElem?_getD, List.getElem?_map, List.getElem?_range h]
  rfl
theorem body_sub_wd {s : List Nat} (hl : Wd s) (n : Nat) : Wd (bodyL (decL s n)) := fun k => by
  by_cases h : k < 2 * n
  · rw [body_sub_at s n k h]; exact hl _
  · rw [List.getD_eq_getElem?_getD, List.getElem?_eq_none (by rw [body_sub_len]; omega)]; decide
theorem body_sub_row {w : World} {b o : Nat} {s : List Nat} {n : Nat} (hn : 8 + 2 * n ≤ s.length) (hlb : b < w.heap.size) (hc : ∀ k, k < s.length → w.cell? ⟨b, o + k, none⟩ = some (.int .u64 ((s.getD k 0 : Nat) : Int))) : Row w (some ⟨b, o + 8, none⟩) (bodyL (decL s n)) := fun _ => by
  refine ⟨_, rfl, hlb, fun k hk => ?_⟩
  rw [body_sub_len] at hk
  have e : (⟨b, o + 8, none⟩ : Addr).add k = ⟨b, o + (8 + k), none⟩ := by
    unfold Addr.add
    by_cases h : k = 0
    · subst h; rfl
    · simp [h, Nat.add_assoc]
  rw [e, body_sub_at s n k hk]
  exact hc _ (by omega)
set_option maxRecDepth 100000 in
set_option maxHeartbeats 1000000 in
theorem bodyOf_calls (b o : Nat) (s : List Nat) (c : Nat) (w : World) (h136 : s.length = 136) (hcap : 136 ≤ c) (hlb : b < w.heap.size) (hc : ∀ k, k < s.length → w.cell? ⟨b, o + k, none⟩ = some (.int .u64 ((s.getD k 0 : Nat) : Int))) (hl : Wd s) (hT : TabAt w) (B : Bool)
    (hB : B = true ↔ rdN s ≤ 64 ∧ commitN (decL s (rdN s)) = s.getD 0 0) :
    Calls Tryd.prog 30 #[.slice (some ⟨b, o, none⟩) 136 c] w fun e w' => e = .returned (.tuple #[if B then .slice (some ⟨b, o + 8, none⟩) (2 * rdN s) (c - 8) else .slice none 0 0, .bool B]) ∧ Below w.heap.size w w' := by
  have e0 := hc 0 (by omega)
  rw [Nat.add_zero] at e0
  have hv := hl 0
  have ha := and_255 _ hv
  have hr : rdN s = s.getD 0 0 % 256 := rfl
  rw [← hr] at ha
  have hn : rdN s < 256 := by rw [hr]; omega
  by_cases h64 : rdN s ≤ 64
  · have cc := commit_calls (some ⟨b, o + 8, none⟩) (bodyL (decL s (rdN s))) (c - 8) w (body_sub_row (by rw [h136]; omega) hlb hc) (body_sub_wd hl _) (by rw [body_sub_len]; omega) hT
    rw [commit_body, body_sub_len] at cc
    have CC := Lib.hid cc
    clear hr hc hl hT cc
    by_cases hq : commitN (decL s (rdN s)) = s.getD 0 0
    · obtain rfl : B = true := hB.2 ⟨h64, hq⟩
      have d1 : (((commitN (decL s (rdN s)) : Nat) : Int) != (s.getD 0 0 : Nat)) = false := by rw [hq]; simp
      clear hB hq h136
      generalize commitN (decL s (rdN s)) = C at *
      generalize rdN s = n at *
      generalize s.getD 0 0 = v at *
      have hw1 : IntKind.i64.wrap (n : Int) = (n : Int) := by rw [IntKind.wrap_i64]; omega
      go_enter Tryd.func30, Tryd.ntmps30
      go_wp2_with (fail)
      refine CC.out.mono ?_
      rintro e w1 ⟨rfl, hb1⟩
      go_wp2_with (fail)
      go_ret2
      exact ⟨rfl, hb1⟩
    · obtain rfl : B = false := by cases B with
        | false => rfl
        | true => exact absurd (hB.1 rfl).2 hq
      have d1 : (((commitN (decL s (rdN s)) : Nat) : Int) != (s.getD 0 0 : Nat)) = true := by rw [bne_iff_ne]; omega
      clear hB hq h136
      generalize commitN (decL s (rdN s)) = C at *
      generalize rdN s = n at *
      generalize s.getD 0 0 = v at *
      have hw1 : IntKind.i64.wrap (n : Int) = (n : Int) := by rw [IntKind.wrap_i64]; omega
      go_enter Tryd.func30, Tryd.ntmps30
      go_wp2_with (fail)
      refine CC.out.mono ?_
      rintro e w1 ⟨rfl, hb1⟩
      go_wp2_with (fail)
      go_ret2
      exact ⟨rfl, hb1⟩
  · obtain rfl : B = false := by cases B with
      | false => rfl
      | true => exact absurd (hB.1 rfl).1 h64
    clear hB hr hc hl hT h136
    generalize rdN s = n at *
    generalize s.getD 0 0 = v at *
    have hw1 : IntKind.i64.wrap (n : Int) = (n : Int) := by rw [IntKind.wrap_i64]; omega
    go_enter Tryd.func30, Tryd.ntmps30
    go_wp2_with (fail)
    go_ret2
    exact ⟨rfl, Below.refl _ _⟩
/-- What listOf tells: the list, and why there is none. -/
def whyP (s : List Nat) (n : Sn) (v : Value) : Prop := (readE s = 7 ∧ readB s = false ∧ ∃ x, v = mV x) ∨ (readE s = 0 ∧ readB s = false ∧ v = pV n.c) ∨ (readE s = 0 ∧ readB s = true ∧ v = .nilIface)
def ListP (s : List Nat) (n : Sn) (w : World) (e : Ending) (w' : World) : Prop :=
  ∃ R cr v, e = .returned (.tuple #[.slice R (readL s).length cr, v]) ∧ whyP s n v ∧ MineR w w' R (readL s).length cr (readL s) ∧ Below w.heap.size w w'
theorem ListP.bad {s : List Nat} {n : Sn} {w w' : World} (x : Addr) (h : Bad s) (hb : Below w.heap.size w w') : ListP s n w (.returned (.tuple #[.slice none 0 0, mV x])) w' :=
  ⟨none, 0, _, by rw [h.l]; rfl, .inl ⟨h.e, h.b, x, rfl⟩, by rw [h.l]; exact MineR.nil _ _, hb⟩
theorem ListP.clr {s : List Nat} {n : Sn} {w w' : World} (h : Clr s) (hb : Below w.heap.size w w') : ListP s n w (.returned (.tuple #[.slice none 0 0, pV n.c])) w' :=
  ⟨none, 0, _, by rw [h.l]; rfl, .inr (.inl ⟨h.e, h.b, rfl⟩), by rw [h.l]; exact MineR.nil _ _, hb⟩
theorem ListP.good {s : List Nat} {n : Sn} {w w' : World} {R : Option Addr} {m cr : Nat} (h : Gd s) (hn : rdN s = m) (hr : MineR w w' R m cr (decL s m)) (hb : Below w.heap.size w w') : ListP s n w (.returned (.tuple #[.slice R m cr, .nilIface])) w' :=
  ⟨R, cr, _, by rw [h.l, dec_len, hn], .inr (.inr ⟨h.e, h.b, rfl⟩), by rw [h.l, dec_len, hn]; exact hr, hb⟩
set_option maxRecDepth 100000 in
set_option maxHeartbeats 1000000 in
theorem list_calls (A : Option Addr) (s : List Nat) (c : Nat) (n : Sn) (w : World) (hr : Row w A s) (hl : Wd s) (hlen : s.length ≤ 9223372036854775807) (hcap : s.length ≤ c) (hN : SnAt w n) (hT : TabAt w) :
    Calls Tryd.prog 24 #[.slice A s.length c] w (ListP s n w) := by
  have HSN := Lib.hid hN
  by_cases h136 : s.length = 136
  · have hS := Lib.hid h136
    rw [h136] at hcap ⊢
    obtain ⟨b, o, rfl, hlb, hc⟩ := hr.at0 (by rw [h136]; decide)
    have e0 := hc 0 (by omega)
    rw [Nat.add_zero] at e0
    by_cases h0 : s.getD 0 0 = 0
    · have KV := Lib.hid (fun w1 => ListP.clr (n := n) (w := w) (w' := w1) (clr_of h136 h0))
      have k0 := hN.c
      unfold pV at k0 KV
      rw [h0] at e0
      clear hc h136 hlen h0 hN
      go_enter Tryd.func24, Tryd.ntmps24
      go_wp2_with (fail)
      go_quiet (fail)
      go_wp2_with (fail)
      go_ret2
      exact KV.out _ (below_drewN (Below.refl _ _) _)
    · have H0 := Lib.hid h0
      have cb := fun B hB => bodyOf_calls b o s c w h136 hcap hlb hc hl hT B hB
      by_cases hq : rdN s ≤ 64 ∧ commitN (decL s (rdN s)) = s.getD 0 0
      · have CB := Lib.hid (cb true ⟨fun _ => hq, fun _ => rfl⟩)
        rw [if_pos rfl] at CB
        have hx0 : (((s.getD 0 0 : Nat) : Int) == 0) = false := by rw [beq_eq_false_iff_ne]; omega
        obtain ⟨m, hM⟩ : ∃ m, rdN s = m := ⟨_, rfl⟩
        have HM := Lib.hid hM
        obtain ⟨hm64, hcm⟩ := hq
        rw [hM] at hm64 CB
        have HC := Lib.hid hcm
        obtain ⟨i0, hi0, hz0, hs0, hb0⟩ := info_parts redo_info
        have HI := Lib.hid hi0
        have HZ := Lib.hid hz0
        have HSZ := Lib.hid hs0
        have HBY := Lib.hid hb0
        clear hi0 hz0 hs0 hb0 cb hcm hM hc h136 hlen h0 hN
        obtain ⟨v0, hV⟩ : ∃ v, s.getD 0 0 = v := ⟨_, rfl⟩
        rw [hV] at hx0 e0
        clear hV
        have hr0 := hr
        go_enter Tryd.func24, Tryd.ntmps24
        go_wp2_with (fail)
        refine CB.out.mono ?_
        clear CB
        rintro e w1 ⟨rfl, hb1⟩
        have HB1 := Lib.hid hb1
        go_wp2_with (fail)
        clear e0 hx0
        obtain ⟨ob, hob⟩ : ∃ ob, o + 8 = ob := ⟨_, rfl⟩
        have HOB := Lib.hid hob
        obtain ⟨M, hMM⟩ : ∃ M, 2 * m = M := ⟨_, rfl⟩
        have HMM := Lib.hid hMM
        have hM128 : M ≤ 128 := by omega
        rw [hob, hMM]
        clear hob hMM hb1
        go_loopw [2, 6] (fun out i wr => ∃ (j k : Nat) (R : Option Addr) (cr : Nat), i = .int .i64 k ∧ Hid (k = 2 * j) ∧ j ≤ m ∧ k ≤ M ∧ out = .slice R j cr ∧ Hid (MineR w1 wr R j cr (decL s j)) ∧ Below w1.heap.size w1 wr ∧ Hid (∀ q, q < j → s.getD (8 + 2 * q) 0 < 1048576)) (fun _ i _ => M - (intOf i).toNat)
        case atStart => exact ⟨0, 0, none, 0, rfl, rfl, by omega, by omega, rfl, Lib.hid (MineR.nil _ _), Below.refl _ _, Lib.hid (fun j hj => absurd hj (by omega))⟩
        case round =>
          obtain ⟨j, k, R, cr, rfl, hkj, hj, hkM, rfl, hO, hBr, hs⟩ := hrel
          have HBR := Lib.hid hBr
          have hsz := hBr.size
          by_cases h1 : k < M
          · have hjm : j < m := by have := hkj.out; have := HMM.out; omega
            have hk2 : k + 1 < M := by have := hkj.out; have := HMM.out; omega
            have hrr := (hr0.below HB1.out).below hBr
            obtain ⟨b', o', hbo, hlb', hc'⟩ := hrr.at0 (by rw [hS.out]; decide)
            injection hbo with hbo
            injection hbo with hbb ho1
            subst hbb ho1
            have e1 := hc' (8 + 2 * j) (by rw [hS.out]; omega)
            have e2 := hc' (9 + 2 * j) (by rw [hS.out]; omega)
            rw [show 9 + 2 * j = 8 + 2 * j + 1 by omega] at e2
            have a1 : o + (8 + 2 * j) = ob + k := by have := hkj.out; have := HOB.out; omega
            have a2 : o + (8 + 2 * j + 1) = ob + (k + 1) := by have := hkj.out; have := HOB.out; omega
            rw [a1] at e1
            rw [a2] at e2
            have e2' := e2
            rw [← Nat.add_assoc] at e2'
            have hx := hl (8 + 2 * j)
            have hds := dec_succ s j
            rw [show 9 + 2 * j = 8 + 2 * j + 1 by omega] at hds
            have hjs := hs.out
            have i1 : (k : Int) < (M : Int) := by omega
            have i2 : (k : Int) + 1 < (M : Int) := by omega
            clear hc' hrr hBr a1 a2
            by_cases hp1 : 1048576 ≤ s.getD (8 + 2 * j) 0
            · have KV := Lib.hid (fun w9 => ListP.bad (n := n) (w := w) (w' := w9) n.a (bad_slot H0.out (slot_no (fun h => by have := h.2.1 j (by rw [HM.out]; exact hjm); omega))))
              have d1 : decide ((1048576 : Int) ≤ ((s.getD (8 + 2 * j) 0 : Nat) : Int)) = true := by rw [decide_eq_true_eq]; omega
              generalize s.getD (8 + 2 * j) 0 = p at *
              generalize s.getD (8 + 2 * j + 1) 0 = x at *
              have k0 := ((HSN.out.below HB1.out).below HBR.out).a
              unfold pV at k0
              clear hds hjs
              go_wp2_with (fail)
              go_quiet (fail)
              go_wp2_with (fail)
              go_quiet (fail)
              go_wp2_with (fail)
              go_ret2
              exact KV.out _ (below_drewN (below_drewN (HB1.out.trans (HBR.out.mono HB1.out.size)) _) _)
            · have d1 : decide ((1048576 : Int) ≤ ((s.getD (8 + 2 * j) 0 : Nat) : Int)) = false := by rw [decide_eq_false_iff_not]; omega
              have HS2 : Hid (∀ q, q < j + 1 → s.getD (8 + 2 * q) 0 < 1048576) := Lib.hid (fun q hq => by
                by_cases h : q < j
                · exact hjs q h
                · obtain rfl : q = j := by omega
                  omega)
              have hp2 : s.getD (8 + 2 * j) 0 < 1048576 := by omega
              have HDS := Lib.hid hds
              clear hds hjs hp1
              generalize s.getD (8 + 2 * j) 0 = p at *
              generalize s.getD (8 + 2 * j + 1) 0 = x at *
              have hwp : IntKind.i64.wrap (p : Int) = (p : Int) := by rw [IntKind.wrap_i64]; omega
              go_wp2_with (fail)
              go_quiet (fail)
              go_wp2_with (at_builtin; refine wpList_append_r rfl (.tmp 50) (.tmp 55) 22 rfl 45 i0 _ 2 16 Tryd.underlying22 HI.out HZ.out HSZ.out HBY.out rfl R j cr (ev (decL s j)) rfl (hO.out.on ((on_drewN wr nq).trans (on_alloc _ _))).1 ⟨wr.heap.size, 0, none⟩ 1 1 (ev [⟨(p : Int), x⟩]) rfl rfl (cells_re (heap_alloc_new _ _)) (ev_one _) (by decide) (by unfold maxLen; omega) (by omega) ?_; intro g' c2 w9 hown2 hgr hg)
              have hst := MineR.step (by simp; omega) hO.out.2 ((below_drewN HBR.out nq).alloc hsz _) hown2 hgr hg HDS.out
              go_roundw
              case rel => exact ⟨j + 1, k + 2, _, c2, by go_num, Lib.hid (by have := hkj.out; omega), by omega, by omega, rfl, Lib.hid hst.1, hst.2, HS2⟩
              case measure => simp [intOf]; omega
          · obtain rfl : k = M := by omega
            have hjm : j = m := by have := hkj.out; have := HMM.out; omega
            subst hjm
            have hgd := gd_of hS.out H0.out (slotB_iff.2 ⟨by rw [HM.out]; exact hm64, by rw [HM.out]; exact hs.out, HC.out⟩)
            have KV := Lib.hid (ListP.good (n := n) hgd HM.out (hO.out.from HB1.out.size) (HB1.out.trans (hBr.mono HB1.out.size)))
            clear hgd
            go_wp2_with (fail)
            go_ret2
            exact KV.out
      · have CB := Lib.hid (cb false ⟨fun h => (by cases h), fun h => absurd h hq⟩)
        have KV := Lib.hid (fun w1 => ListP.bad (n := n) (w := w) (w' := w1) n.m (bad_slot h0 (slot_no (fun h => hq ⟨h.1, h.2.2⟩))))
        have hx0 : (((s.getD 0 0 : Nat) : Int) == 0) = false := by rw [beq_eq_false_iff_ne]; omega
        clear cb hq
        generalize s.getD 0 0 = v at *
        clear hc h136 hlen h0 hN
        go_enter Tryd.func24, Tryd.ntmps24
        go_wp2_with (fail)
        refine CB.out.mono ?_
        rintro e w1 ⟨rfl, hb1⟩
        have k0 := (HSN.out.below hb1).m
        unfold pV at k0
        go_wp2_with (fail)
        go_quiet (fail)
        go_wp2_with (fail)
        go_ret2
        exact KV.out _ (below_drewN hb1 _)
  · have KV := Lib.hid (fun w1 => ListP.bad (n := n) (w := w) (w' := w1) n.l (bad_len h136))
    have hne : ((s.length : Int) != 136) = true := by rw [bne_iff_ne]; omega
    have k0 := hN.l
    unfold pV at k0
    generalize s.length = m at *
    clear hN
    go_enter Tryd.func24, Tryd.ntmps24
    go_wp2_with (fail)
    go_quiet (fail)
    go_wp2_with (fail)
    go_ret2
    exact KV.out _ (below_drewN (Below.refl _ _) _)
def ReadsP (s : List Nat) (w : World) (e : Ending) (w' : World) : Prop :=
  ∃ x R cr, e = .returned (.tuple #[.slice R (readL s).length cr, .bool (readB s), errR x (readE s)]) ∧ MineR w w' R (readL s).length cr (readL s) ∧ Below w.heap.size w w'
set_option maxRecDepth 100000 in
set_option maxHeartbeats 1000000 in
theorem read_calls (A : Option Addr) (s : List Nat) (c : Nat) (n : Sn) (w : World) (hr : Row w A s) (hl : Wd s) (hlen : s.length ≤ 9223372036854775807) (hcap : s.length ≤ c) (hN : SnAt w n) (hT : TabAt w) :
    Calls Tryd.prog 19 #[.slice A s.length c] w (ReadsP s w) := by
  have HSN := Lib.hid hN
  have CL := Lib.hid (list_calls A s c n w hr hl hlen hcap hN hT)
  obtain ⟨m, hm⟩ : ∃ m, s.length = m := ⟨_, rfl⟩
  rw [hm] at CL ⊢
  clear hr hl hlen hcap hN hT hm
  go_enter Tryd.func19, Tryd.ntmps19
  go_wp2_with (fail)
  refine CL.out.mono ?_
  rintro e w1 ⟨R, cr, v, rfl, hw, hR, hb1⟩
  have k0 := (HSN.out.below hb1).c
  have HR := Lib.hid hR
  have HB1 := Lib.hid hb1
  rcases hw with ⟨hE, hB, x, rfl⟩ | ⟨hE, hB, rfl⟩ | ⟨hE, hB, rfl⟩
  · have hL : readL s = [] := if_neg (by rw [hB]; decide)
    have KV := Lib.hid (fun w9 (h9 : Below w.heap.size w w9) => (⟨x, none, 0, by rw [hL, hB, hE]; rfl, by rw [hL]; exact MineR.nil _ _, h9⟩ : ReadsP s w (.returned (.tuple #[.slice none 0 0, .bool false, mV x])) w9))
    have ci := is_form x w1
    clear hL hE hB hb1 hR
    go_wp2_with (fail)
    refine ci.mono ?_
    rintro e w2 ⟨rfl, hb2⟩
    go_wp2_with (fail)
    exact bodyPost_ret (v := .tuple #[.slice none 0 0, .bool false, mV x]) (by simp [results, Tryd.results19, go_sem]) rfl (KV.out _ (HB1.out.trans (hb2.mono HB1.out.size)))
  · have KV := Lib.hid (fun w9 (h9 : Below w1.heap.size w1 w9) => (⟨n.c, R, cr, by rw [hB, hE]; rfl, HR.out.on h9, HB1.out.trans (h9.mono HB1.out.size)⟩ : ReadsP s w (.returned (.tuple #[.slice R (readL s).length cr, .bool false, .nilIface])) w9))
    have ci := is_clear n.c w1
    have cj := is_same n.c w1
    clear hE hB hb1 hR
    go_wp2_with (fail)
    refine ci.mono ?_
    rintro e w2 ⟨rfl, rfl⟩
    go_wp2_with (fail)
    refine cj.mono ?_
    rintro e w2 ⟨rfl, rfl⟩
    go_wp2_with (fail)
    exact bodyPost_ret (v := .tuple #[.slice R (readL s).length cr, .bool false, .nilIface]) (by simp [results, Tryd.results19, go_sem]) rfl (KV.out _ (Below.refl _ _))
  · have KV := Lib.hid (fun w9 (h9 : Below w1.heap.size w1 w9) => (⟨n.c, R, cr, by rw [hB, hE]; rfl, HR.out.on h9, HB1.out.trans (h9.mono HB1.out.size)⟩ : ReadsP s w (.returned (.tuple #[.slice R (readL s).length cr, .bool true, .nilIface])) w9))
    have ci := is_nilE w1
    have cj := is_nilP n.c w1
    clear hE hB hb1 hR
    go_wp2_with (fail)
    refine ci.mono ?_
    rintro e w2 ⟨rfl, rfl⟩
    go_wp2_with (fail)
    refine cj.mono ?_
    rintro e w2 ⟨rfl, rfl⟩
    go_wp2_with (fail)
    exact bodyPost_ret (v := .tuple #[.slice R (readL s).length cr, .bool true, .nilIface]) (by simp [results, Tryd.results19, go_sem]) rfl (KV.out _ (Below.refl _ _))
end Go.Proofs.YtlfpjfijlngpcaaDoor
