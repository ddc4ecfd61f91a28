/- The document's own Read of a slot. -/
import Derived.Test.YtlfpjfijlngpcaaDoorYd
import Derived.Test.YtlfpjfijlngpcaaDoorYa
import Derived.Lib.QuietBelow
set_option linter.unusedSimpArgs false
set_option linter.unusedVariables false
namespace Go.Proofs.YtlfpjfijlngpcaaDoor
open Go.RowKit SumMath WordMath Go.Sort
theorem slotB_iff {s : List Nat} : slotB s = true ↔ rdN s ≤ 64 ∧ (∀ k, k < rdN s → s.getD (8 + 2 * k) 0 < 1048576) ∧ commitN (decL s (rdN s)) = s.getD 0 0 := by
  unfold slotB
  simp only [Bool.and_eq_true, decide_eq_true_eq, List.all_eq_true]
  constructor
  · rintro ⟨⟨h1, h2⟩, h3⟩
    refine ⟨h1, fun k hk => ?_, h3⟩
    have := h2 ((decL s (rdN s)).getD k re0) (by rw [List.getD_eq_getElem?_getD, List.getElem?_eq_getElem (by rw [dec_len]; exact hk)]; exact List.getElem_mem (by rw [dec_len]; exact hk))
    rw [dec_at s _ k hk] at this
    have := of_decide_eq_true this
    simp only at this
    omega
  · rintro ⟨h1, h2, h3⟩
    refine ⟨⟨h1, fun e he => ?_⟩, h3⟩
    obtain ⟨k, hk, rfl⟩ := List.getElem_of_mem he
    have hk' : k < rdN s := by rw [dec_len] at hk; exact hk
    have e := dec_at s _ k hk'
    rw [List.getD_eq_getElem?_getD, List.getElem?_eq_getElem hk] at e
    have e : (decL s (rdN s))[k] = _ := e
    rw [e]
    have := h2 k hk'
    unfold reB
    simp only [decide_eq_true_eq]
    omega
structure Bad (s : List Nat) : Prop where
  e : readE s = 7
  b : readB s = false
  l : readL s = []
theorem bad_len {s : List Nat} (h : s.length ≠ 136) : Bad s := by
  have hb : readB s = false := by unfold readB; rw [decide_eq_false h]; rfl
  exact ⟨if_neg h, hb, if_neg (by rw [hb]; decide)⟩
theorem bad_slot {s : List Nat} (h0 : s.getD 0 0 ≠ 0) (h : slotB s = false) : Bad s := by
  have hb : readB s = false := by unfold readB; rw [h, Bool.and_false]
  refine ⟨?_, hb, if_neg (by rw [hb]; decide)⟩
  unfold readE
  by_cases hl : s.length = 136
  · rw [if_pos hl, if_neg h0, if_neg (by rw [h]; decide)]
  · rw [if_neg hl]
theorem slot_no {s : List Nat} (h : ¬ (rdN s ≤ 64 ∧ (∀ k, k < rdN s → s.getD (8 + 2 * k) 0 < 1048576) ∧ commitN (decL s (rdN s)) = s.getD 0 0)) : slotB s = false := by
  cases hb : slotB s with
  | false => rfl
  | true => exact absurd (slotB_iff.1 hb) h
structure Clr (s : List Nat) : Prop where
  e : readE s = 0
  b : readB s = false
  l : readL s = []
theorem clr_of {s : List Nat} (h : s.length = 136) (h0 : s.getD 0 0 = 0) : Clr s := by
  have hb : readB s = false := by unfold readB; rw [decide_eq_false (p := s.getD 0 0 ≠ 0) (fun h => h h0), Bool.and_false]; rfl
  refine ⟨?_, hb, if_neg (by rw [hb]; decide)⟩
  unfold readE
  rw [if_pos h, if_pos h0]
structure Gd (s : List Nat) : Prop where
  e : readE s = 0
  b : readB s = true
  l : readL s = decL s (rdN s)
theorem gd_of {s : List Nat} (h : s.length = 136) (h0 : s.getD 0 0 ≠ 0) (hs : slotB s = true) : Gd s := by
  have hb : readB s = true := by unfold readB; rw [decide_eq_true h, decide_eq_true h0, hs]; rfl
  refine ⟨?_, hb, if_pos hb⟩
  unfold readE
  rw [if_pos h, if_neg h0, if_pos hs]
theorem dec_good {s : List Nat} {n : Nat} (hl : Wd s) (h : ∀ k, k < n → s.getD (8 + 2 * k) 0 < 1048576) : GoodR (decL s n) := fun k hk => by
  rw [dec_len] at hk
  rw [dec_at s n k hk]
  have := h k hk
  have := hl (9 + 2 * k)
  simp only
  omega
theorem Row.to_cel {w : World} {A : Option Addr} {l : List Nat} (h : Row w A l) : Cel w A (wv l) := fun h0 => by
  rw [wv_length] at h0
  obtain ⟨ad, e, hl, hc⟩ := h h0
  refine ⟨ad, e, hl, fun j u hu => ?_⟩
  have hj : j < l.length := by have := (List.getElem?_eq_some_iff.1 hu).1; rwa [wv_length] at this
  rw [wv_get l j hj] at hu
  rw [hc j hj]; exact hu
theorem Row.at0 {w : World} {A : Option Addr} {l : List Nat} (h : Row w A l) (h0 : 0 < l.length) : ∃ b o, A = some ⟨b, o, none⟩ ∧ b < w.heap.size ∧ ∀ k, k < l.length → w.cell? ⟨b, o + k, none⟩ = some (.int .u64 ((l.getD k 0 : Nat) : Int)) := by
  obtain ⟨b, o, e, hlt, hc⟩ := h.to_cel.at0 (by rw [wv_length]; exact h0)
  exact ⟨b, o, e, hlt, fun k hk => hc k _ (wv_get l k hk)⟩
def ReadP (s : List Nat) (w : World) (e : Ending) (w' : World) : Prop :=
  ∃ R cr, e = .returned (.tuple #[.slice R (readL s).length cr, .bool (readB s), fR (readE s)]) ∧ MineR w w' R (readL s).length cr (readL s) ∧ Below w.heap.size w w'
theorem ReadP.bad {s : List Nat} {w w' : World} (h : Bad s) (hb : Below w.heap.size w w') : ReadP s w (.returned (.tuple #[.slice none 0 0, .bool false, fR 7])) w' := by
  refine ⟨none, 0, ?_, ?_, hb⟩
  · rw [h.e, h.b, h.l]; rfl
  · rw [h.l]; exact MineR.nil _ _
theorem ReadP.clr {s : List Nat} {w w' : World} (h : Clr s) (hb : Below w.heap.size w w') : ReadP s w (.returned (.tuple #[.slice none 0 0, .bool false, fR 0])) w' := by
  refine ⟨none, 0, ?_, ?_, hb⟩
  · rw [h.e, h.b, h.l]; rfl
  · rw [h.l]; exact MineR.nil _ _
theorem ReadP.good {s : List Nat} {w w' : World} {R : Option Addr} {n cr : Nat} (h : Gd s) (hn : rdN s = n) (hr : MineR w w' R n cr (decL s n)) (hb : Below w.heap.size w w') : ReadP s w (.returned (.tuple #[.slice R n cr, .bool true, fR 0])) w' := by
  refine ⟨R, cr, ?_, ?_, hb⟩
  · rw [h.e, h.b, h.l, dec_len, hn]
  · rw [h.l, dec_len, hn]; exact hr
theorem MineR.other {w w' : World} {A : Option Addr} {n c : Nat} {L : List Re} (h : MineR w w' A n c L) {a : Addr} (v : Value) (hne : a.block < w.heap.size) : MineR w (w'.setCell a v) A n c L :=
  ⟨h.1.keep fun ad e => Below.heap_setCell w' a v ad.block (by have := h.2 ad e; omega), h.2⟩
/-- The row goes on by one entry. -/
theorem MineR.step {w wa w1 : World} {A : Option Addr} {n g c' : Nat} {L ys : List Re} {e : Re} (hw : w.heap.size ≤ wa.heap.size) (hA : ∀ ad, A = some ad → w.heap.size ≤ ad.block) (hB : Below w.heap.size w wa)
    (hown : OwnR w1 45 2 (some ⟨g, 0, none⟩) (n + 1) c' (ev L ++ ev [e])) (hgr : wa.grownBy w1 (A.map (·.block))) (hg : A = some ⟨g, 0, none⟩ ∨ g = wa.heap.size) (hy : ys = L ++ [e]) :
    MineR w w1 (some ⟨g, 0, none⟩) (n + 1) c' ys ∧ Below w.heap.size w w1 := by
  subst hy
  refine ⟨⟨by rw [ev_append]; exact hown, fun ad e => ?_⟩, hB.grown hgr hw (fun k hk => ?_)⟩
  · injection e with e
    subst e
    rcases hg with h | h
    · exact hA _ h
    · show w.heap.size ≤ g
      omega
  · rcases hAA : A with _ | ad
    · rw [hAA] at hk; cases hk
    · rw [hAA] at hk
      have : ad.block = k := by simpa using hk
      rw [← this]
      exact hA _ hAA
theorem cells_re {w : World} {g : Nat} {p : Int} {x : Nat} {t : TypeId} (hw : w.heap[g]? = some (.cells #[.int .i64 p, .int .u64 (x : Int)] t (0, 0))) :
    ∀ j u, (ev [⟨p, x⟩])[j]? = some u → w.cell? ((⟨g, 0, none⟩ : Addr).add j) = some u := by
  intro j u hu
  rw [add_zero_block, cell_of_row w g j _ t (0, 0) hw, ← hu, List.getElem?_toArray]
  rfl
theorem frozen_of {w : World} {g k : Nat} {cs : Array Value} {t : TypeId} (h : w.heap[g]? = some (.cells cs t (0, 0))) : w.frozen? ⟨g, k, none⟩ = false := by
  simp [World.frozen?, h]
/-- The two variables that the call begins with: its result, and the fault that it may answer. -/
structure Zr (w w0 : World) : Prop where
  on : Below w.heap.size w w0
  z : w0.heap[w.heap.size]? = some (.cells #[.int .i64 0, .int .i64 0] 52 (0, 0))
  b : w0.heap[w.heap.size + 1]? = some (.cells #[.int .i64 0, .int .i64 7] 52 (0, 0))
theorem Zr.start (w : World) : Zr w ((w.alloc (.cells #[.int .i64 0, .int .i64 0] 52)).alloc (.cells #[.int .i64 0, .int .i64 7] 52)) := by
  refine ⟨on_two w _ _, (Below.heap_alloc _ _ _ (by simp)).trans (heap_alloc_new w _), ?_⟩
  have := heap_alloc_new (w.alloc (.cells #[.int .i64 0, .int .i64 0] 52)) (.cells #[.int .i64 0, .int .i64 7] 52)
  rwa [World.size_alloc] at this
theorem Zr.below {w w0 w1 : World} (h : Zr w w0) (hb : Below w0.heap.size w0 w1) : Zr w w1 :=
  ⟨h.on.trans (hb.mono h.on.size), (hb.block _ (lt_of_cells h.z)).trans h.z, (hb.block _ (lt_of_cells h.b)).trans h.b⟩
set_option maxRecDepth 100000 in
set_option maxHeartbeats 1000000 in
theorem rread_calls (A : Option Addr) (s : List Nat) (c : Nat) (w : World) (hr : Row w A s) (hl : Wd s) (hlen : s.length ≤ 9223372036854775807) :
    Calls Tryd.prog 23 #[.slice A s.length c] w (ReadP s w) := by
  by_cases h136 : s.length = 136
  · have hS := Lib.hid h136
    rw [h136]
    obtain ⟨b, o, rfl, hlb, hc⟩ := hr.at0 (by rw [h136]; decide)
    have e0 := hc 0 (by omega)
    rw [Nat.add_zero] at e0
    by_cases h0 : s.getD 0 0 = 0
    · have KV := Lib.hid (clr_of h136 h0)
      rw [h0] at e0
      clear hc h136 hlen h0
      go_enter Tryd.func23, Tryd.ntmps23
      go_wp2_with (fail)
      exact bodyPost_ret (v := .tuple #[.slice none 0 0, .bool false, fR 0]) (by simp [results, Tryd.results23, go_sem, fR]) rfl (ReadP.clr KV.out (on_two w _ _))
    · have H0 := Lib.hid h0
      have hlt := hl 0
      by_cases hn : 64 < rdN s
      · have KV := Lib.hid (bad_slot h0 (slot_no (fun h => by have := h.1; omega)))
        have hm1 : ((s.getD 0 0 : Nat) : Int) % 256 = ((rdN s : Nat) : Int) := by unfold rdN; omega
        have hx0 : (((s.getD 0 0 : Nat) : Int) == 0) = false := by rw [beq_eq_false_iff_ne]; omega
        have hnn : rdN s < 256 := by unfold rdN; omega
        generalize rdN s = n at *
        generalize s.getD 0 0 = v0 at *
        clear hc h136 hlen h0 hlt
        have hw1 : IntKind.i64.wrap (n : Int) = (n : Int) := by rw [IntKind.wrap_i64]; omega
        go_enter Tryd.func23, Tryd.ntmps23
        go_wp2_with (fail)
        go_region
        go_wp2_with (fail)
        exact bodyPost_ret (v := .tuple #[.slice none 0 0, .bool false, fR 7]) (by simp [results, Tryd.results23, go_sem, fR]) rfl (ReadP.bad KV.out (below_drewN (on_two w _ _) 1))
      · have hm1 : ((s.getD 0 0 : Nat) : Int) % 256 = ((rdN s : Nat) : Int) := by unfold rdN; omega
        have hx0 : (((s.getD 0 0 : Nat) : Int) == 0) = false := by rw [beq_eq_false_iff_ne]; omega
        obtain ⟨n, hN⟩ : ∃ n, rdN s = n := ⟨_, rfl⟩
        obtain ⟨v0, hV⟩ : ∃ v, s.getD 0 0 = v := ⟨_, rfl⟩
        have HN := Lib.hid hN
        have HV := Lib.hid hV
        have hn2 : n ≤ 64 := by omega
        rw [hN] at hm1
        rw [hV] at e0 hx0 hm1
        have h136' : ¬ s.length ≠ 136 := fun h => h h136
        clear h136 hlen h0 hlt hn hN hV h136' hc
        have hw1 : IntKind.i64.wrap (n : Int) = (n : Int) := by rw [IntKind.wrap_i64]; omega
        obtain ⟨i0, hi0, hz0, hs0, hb0⟩ := info_parts redo_info
        have HI := Lib.hid hi0
        have HZ := Lib.hid hz0
        have HSZ := Lib.hid hs0
        have HBY := Lib.hid hb0
        clear hi0 hz0 hs0 hb0
        go_enter Tryd.func23, Tryd.ntmps23
        go_wp2_with (fail)
        have HZR := Lib.hid (Zr.start w)
        generalize (w.alloc (.cells #[.int .i64 0, .int .i64 0] 52)).alloc (.cells #[.int .i64 0, .int .i64 7] 52) = w0 at *
        clear hm1 hx0 e0 hw1
        go_loopw [7, 8] (fun out i wr => ∃ (k : Nat) (R : Option Addr) (cr : Nat), i = .int .i64 k ∧ k ≤ n ∧ out = .slice R k cr ∧ Hid (MineR w0 wr R k cr (decL s k)) ∧ Below w0.heap.size w0 wr ∧ Hid (∀ j, j < k → s.getD (8 + 2 * j) 0 < 1048576)) (fun _ i _ => n - (intOf i).toNat)
        case atStart => exact ⟨0, none, 0, rfl, by omega, rfl, Lib.hid (MineR.nil _ _), Below.refl _ _, Lib.hid (fun j hj => absurd hj (by omega))⟩
        case round =>
          obtain ⟨k, R, cr, rfl, hk, rfl, hO, hBr, hs⟩ := hrel
          have hZ := HZR.out.below hBr
          have hrr := (hr.below HZR.out.on).below hBr
          obtain ⟨b', o', hbo, hlb', hc'⟩ := hrr.at0 (by rw [hS.out]; decide)
          injection hbo with hbo
          injection hbo with hb1 ho1
          subst hb1 ho1
          obtain ⟨z0, z1⟩ := two_cells hZ.z
          obtain ⟨y0, y1⟩ := two_cells hZ.b
          have fz := fun q => frozen_of (k := q) hZ.z
          have lz := lt_of_cells hZ.z
          have ly := lt_of_cells hZ.b
          have HBR := Lib.hid hBr
          have HZ2 := Lib.hid hZ
          have hsz := hBr.size
          by_cases h1 : k < n
          · have e1 := hc' (8 + 2 * k) (by rw [hS.out]; omega)
            have e2 := hc' (9 + 2 * k) (by rw [hS.out]; omega)
            rw [show 9 + 2 * k = 8 + 2 * k + 1 by omega] at e2
            have hx := hl (8 + 2 * k)
            have hds := dec_succ s k
            clear hc' hrr hBr hZ
            by_cases hp1 : 1048576 ≤ s.getD (8 + 2 * k) 0
            · have KV := Lib.hid (bad_slot H0.out (slot_no (fun h => by have := h.2.1 k (by rw [HN.out]; exact h1); omega)))
              have d1 : decide ((1048576 : Int) ≤ ((s.getD (8 + 2 * k) 0 : Nat) : Int)) = true := by rw [decide_eq_true_eq]; omega
              generalize s.getD (8 + 2 * k) 0 = p at *
              clear hds e2
              go_wp2_with (fail)
              go_region
              go_wp2_with (fail)
              exact bodyPost_ret (v := .tuple #[.slice none 0 0, .bool false, fR 7]) (by simp [results, Tryd.results23, go_sem, fR, z0, z1]) rfl (ReadP.bad KV.out (below_drewN ((HZ2.out.on.setCell (p := ⟨w.heap.size, 0, none⟩) (Nat.le_refl _) _).setCell (p := ⟨w.heap.size, 1, none⟩) (Nat.le_refl _) _) 1))
            · have d1 : decide ((1048576 : Int) ≤ ((s.getD (8 + 2 * k) 0 : Nat) : Int)) = false := by rw [decide_eq_false_iff_not]; omega
              have HS2 : Hid (∀ j, j < k + 1 → s.getD (8 + 2 * j) 0 < 1048576) := Lib.hid (fun j hj => by
                by_cases h : j < k
                · exact hs.out j h
                · obtain rfl : j = k := by omega
                  omega)
              have HDS := Lib.hid hds
              have hp2 : s.getD (8 + 2 * k) 0 < 1048576 := by omega
              rw [show 9 + 2 * k = 8 + 2 * k + 1 by omega] at HDS
              clear hds hp1
              generalize s.getD (8 + 2 * k) 0 = p at *
              generalize s.getD (8 + 2 * k + 1) 0 = x at *
              have hwp : IntKind.i64.wrap (p : Int) = (p : Int) := by rw [IntKind.wrap_i64]; omega
              go_wp2_with (at_builtin; refine wpList_append_r rfl (.tmp 42) (.tmp 53) 22 rfl 45 i0 _ 2 16 Tryd.underlying22 HI.out HZ.out HSZ.out HBY.out rfl R k cr (ev (decL s k)) rfl (hO.out.on (on_alloc wr _)).1 ⟨wr.heap.size, 0, none⟩ 1 1 (ev [⟨(p : Int), x⟩]) rfl rfl (cells_re (heap_alloc_new _ _)) (ev_one _) (by decide) (by unfold maxLen; omega) (by omega) ?_; intro g' c2 w1 hown2 hgr hg)
              have hst := MineR.step (by simp; omega) hO.out.2 (HBR.out.alloc hsz _) hown2 hgr hg HDS.out
              go_roundw
              case rel => exact ⟨k + 1, _, c2, by go_num, by omega, rfl, Lib.hid hst.1, hst.2, HS2⟩
              case measure => simp [intOf]; omega
          · obtain rfl : k = n := by omega
            have hgd := dec_good hl hs.out
            have e0 := hc' 0 (by rw [hS.out]; decide)
            rw [Nat.add_zero, HV.out] at e0
            have cK := fun w1 hb => rcommit_calls R (decL s k) cr w1 (hO.out.cel.below hb) hgd (by rw [dec_len]; exact hn2)
            rw [dec_len] at cK
            have cS : ∀ dq os, Calls Tryd.prog 14 #[.slice R k cr] (grow (redrawn wr dq) os) fun e w'' => e = .returned (.int .u64 (commitN (decL s k) : Nat)) ∧ ∃ p : Regrown, w'' = grow (redrawn wr p.d) p.os :=
              fun dq os => Calls.regrown_of (cK _ (below_regrown wr dq os))
            have k0 := cell_regrown e0
            have HSL := Lib.hid (fun (h : commitN (decL s k) = v0) => slotB_iff.2 ⟨by rw [HN.out]; exact hn2, by rw [HN.out]; exact hs.out, by rw [HN.out, HV.out]; exact h⟩)
            have HNS := Lib.hid (fun (h : ¬ commitN (decL s k) = v0) => slot_no (s := s) (fun h2 => h (by have := h2.2.2; rwa [HN.out, HV.out] at this)))
            clear hgd cK e0 hc' hrr hBr hZ hs
            by_cases hq : commitN (decL s k) = v0
            · have KV := Lib.hid (gd_of hS.out H0.out (HSL.out hq))
              have d1 : (((commitN (decL s k) : Nat) : Int) != (v0 : Nat)) = false := by rw [hq]; simp
              clear HSL HNS hq
              generalize commitN (decL s k) = cc at *
              go_wp2_with (fail)
              refine wp_region_quiet_below (by kernel_rfl) (by kernel_rfl) ?_
              repeat (first | go_big_quiet_step (exact cS _ _) | quiet_step (exact cS _ _))
              refine wpQuiet_nil ?_
              intro _ hw'
              clear z0 z1 y0 y1 fz lz ly
              obtain ⟨⟨dq, osq⟩, hw''⟩ := hw'
              subst hw''
              have hb1 := below_regrown wr dq osq
              clear k0 cS
              generalize grow (redrawn wr dq) osq = w1 at *
              have hZ1 := HZ2.out.below hb1
              obtain ⟨z0, z1⟩ := two_cells hZ1.z
              obtain ⟨y0, y1⟩ := two_cells hZ1.b
              have fz := fun q => frozen_of (k := q) hZ1.z
              have lz := lt_of_cells hZ1.z
              have ly := lt_of_cells hZ1.b
              have HZ3 := Lib.hid hZ1
              have HO3 := Lib.hid (hO.out.on hb1)
              clear hZ1 hb1
              go_wp2_with (fail)
              exact bodyPost_ret (v := .tuple #[.slice R k cr, .bool true, fR 0]) (by simp [results, Tryd.results23, go_sem, fR, z0, z1]) rfl (ReadP.good KV.out HN.out (((HO3.out.other _ (lt_of_cells HZR.out.z)).other _ (lt_of_cells HZR.out.z)).from HZR.out.on.size) ((HZ3.out.on.setCell (p := ⟨w.heap.size, 0, none⟩) (Nat.le_refl _) _).setCell (p := ⟨w.heap.size, 1, none⟩) (Nat.le_refl _) _))
            · have KV := Lib.hid (bad_slot H0.out (HNS.out hq))
              have d1 : (((commitN (decL s k) : Nat) : Int) != (v0 : Nat)) = true := by rw [bne_iff_ne]; omega
              clear HSL HNS hq
              generalize commitN (decL s k) = cc at *
              go_wp2_with (fail)
              refine wp_region_quiet_below (by kernel_rfl) (by kernel_rfl) ?_
              repeat (first | go_big_quiet_step (exact cS _ _) | quiet_step (exact cS _ _))
              refine wpQuiet_nil ?_
              intro _ hw'
              clear z0 z1 y0 y1 fz lz ly
              obtain ⟨⟨dq, osq⟩, hw''⟩ := hw'
              subst hw''
              have hb1 := below_regrown wr dq osq
              clear k0 cS
              generalize grow (redrawn wr dq) osq = w1 at *
              have hZ1 := HZ2.out.below hb1
              obtain ⟨z0, z1⟩ := two_cells hZ1.z
              obtain ⟨y0, y1⟩ := two_cells hZ1.b
              have fz := fun q => frozen_of (k := q) hZ1.z
              have lz := lt_of_cells hZ1.z
              have ly := lt_of_cells hZ1.b
              have HZ3 := Lib.hid hZ1
              have HO3 := Lib.hid (hO.out.on hb1)
              clear hZ1 hb1
              go_wp2_with (fail)
              go_region
              go_wp2_with (fail)
              exact bodyPost_ret (v := .tuple #[.slice none 0 0, .bool false, fR 7]) (by simp [results, Tryd.results23, go_sem, fR, z0, z1]) rfl (ReadP.bad KV.out (below_drewN ((HZ3.out.on.setCell (p := ⟨w.heap.size, 0, none⟩) (Nat.le_refl _) _).setCell (p := ⟨w.heap.size, 1, none⟩) (Nat.le_refl _) _) 1))
  · have KV := Lib.hid (bad_len h136)
    have hne : ((s.length : Int) != 136) = true := by rw [bne_iff_ne]; omega
    generalize s.length = n at *
    go_enter Tryd.func23, Tryd.ntmps23
    go_wp2_with (fail)
    go_region
    go_wp2_with (fail)
    exact bodyPost_ret (v := .tuple #[.slice none 0 0, .bool false, fR 7]) (by simp [results, Tryd.results23, go_sem, fR]) rfl (ReadP.bad KV.out (below_drewN (on_two w _ _) 1))
end Go.Proofs.YtlfpjfijlngpcaaDoor
