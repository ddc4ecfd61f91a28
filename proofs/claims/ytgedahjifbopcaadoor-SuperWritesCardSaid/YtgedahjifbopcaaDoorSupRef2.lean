/- The document's own superblock: what Decode hands back. -/
import Derived.Test.YtgedahjifbopcaaDoorSupRef
namespace Go.Proofs.YtgedahjifbopcaaDoor
open Go.RowKit SumMath WordMath
/-- A fault that tells a place, or none. -/
def fV : Option Nat → Value
  | none => .agg #[.int .i64 0, .int .i64 0]
  | some k => .agg #[.int .i64 (k : Nat), .int .i64 7]
/-- What is handed back, and where it lies. -/
def DecV (l : List Nat) (w : World) (e : Ending) (w' : World) : Prop :=
  e = .returned (match badAt l with
    | none => .tuple #[gv (fP (l.getD 1 0) : Nat) (fI (l.getD 1 0) : Nat) (fB (l.getD 1 0) : Nat), .bool (hB (l.getD 1 0)), fV none]
    | some k => .tuple #[gv 0 0 0, .bool false, fV (some k)]) ∧ Below w.heap.size w w'
theorem DecV.bad {l : List Nat} {w w' : World} {k : Nat} (h : badAt l = some k) (hb : Below w.heap.size w w') : DecV l w (.returned (.tuple #[gv 0 0 0, .bool false, .agg #[.int .i64 (k : Nat), .int .i64 7]])) w' := by
  unfold DecV
  rw [h]
  exact ⟨rfl, hb⟩
theorem DecV.good {l : List Nat} {w w' : World} (h : badAt l = none) (hb : Below w.heap.size w w') : DecV l w (.returned (.tuple #[gv (fP (l.getD 1 0) : Nat) (fI (l.getD 1 0) : Nat) (fB (l.getD 1 0) : Nat), .bool (hB (l.getD 1 0)), .agg #[.int .i64 0, .int .i64 0]])) w' := by
  unfold DecV
  rw [h]
  exact ⟨rfl, hb⟩
theorem two_cells {w0 : World} {B : Nat} {x y : Value} {t : TypeId} (hw : w0.heap[B]? = some (.cells #[x, y] t (0, 0))) : w0.cell? ⟨B, 0, none⟩ = some x ∧ w0.cell? ⟨B, 1, none⟩ = some y :=
  ⟨cell_of_row w0 B 0 _ t (0, 0) hw, cell_of_row w0 B 1 _ t (0, 0) hw⟩
/-- Words 2 to k - 1 are 0. -/
structure Zs (l : List Nat) (k : Nat) : Prop where
  all : ∀ j, 2 ≤ j → j < k → l.getD j 0 = 0
/-- The results' own blocks. -/
structure Zro (w u : World) : Prop where
  geom : u.heap[w.heap.size]? = some (.cells #[.int .i64 0, .int .i64 0, .int .i64 0] 23)
  fault : u.heap[w.heap.size + 1]? = some (.cells #[.int .i64 0, .int .i64 0] 48)
  under : Below w.heap.size w u
theorem Zro.later {w u u' : World} (h : Zro w u) (hb : Below u.heap.size u u') : Zro w u' :=
  ⟨(hb.block _ (lt_of_cells h.geom)).trans h.geom, (hb.block _ (lt_of_cells h.fault)).trans h.fault, h.under.trans (hb.mono h.under.size)⟩
theorem Zro.begin (w : World) : Zro w ((w.alloc (.cells #[.int .i64 0, .int .i64 0, .int .i64 0] 23)).alloc (.cells #[.int .i64 0, .int .i64 0] 48)) := by
  refine ⟨(Below.heap_alloc _ _ _ (by simp)).trans (heap_alloc_new w _), ?_, ((Below.refl _ _).alloc (Nat.le_refl _) _).alloc (by simp) _⟩
  have := heap_alloc_new (w.alloc (.cells #[.int .i64 0, .int .i64 0, .int .i64 0] 23)) (.cells #[.int .i64 0, .int .i64 0] 48)
  rwa [World.size_alloc] at this
set_option maxRecDepth 100000 in
set_option maxHeartbeats 1000000 in
theorem rdecode_len (A : Option Addr) (l : List Nat) (c : Nat) (w : World) (h8 : l.length ≠ 8) :
    Calls Tryd.prog 19 #[.slice A l.length c] w (DecV l w) := by
  have hne8 : Hid (((l.length : Int) != 8) = true) := Lib.hid (by rw [bne_iff_ne]; omega)
  have hbad := Lib.hid (bad_len h8)
  have hZ0 := Lib.hid (Zro.begin w)
  clear h8
  go_enter Tryd.func19, Tryd.ntmps19
  go_wp2_with (fail)
  refine wp_region_rel2 (E := fun _ => false) (s := 100) (T0 := On) (T := On) (R := sps 0 titledO [.val (.slice A l.length c), .val (.int .i64 (l.length : Nat)), .val (.bool true), .val (.bool true), .any, .any, .any, .any, .any, .any, .any, .val (.bool true)])
    (by kernel_rfl) (by kernel_rfl) On.refl On.trans (fun h => h) On.trans (fun i v w w' h k => Sp2.stable h (WrT.on k)) (sps_un (by kernel_rfl)) (On.drawn _) (by kernel_rfl) ?steps ?rest
  case steps =>
    refine ⟨?s0, ?s1, ?s2, ?s3, ?s4, ?s5, ?s6, ?s7, ?s8, ?s9, ?s10, ?s11, trivial⟩
    case s0 =>
      exact fun a u hT h0 hA hd => .inl ⟨rfl, StepOK.move (.tmp 0) rfl (hA.eval 0 rfl) (On.refl _)⟩
    case s1 =>
      exact fun a u hT h0 hA hd => .inl ⟨rfl, stp_len (On.refl _) (.tmp 9) rfl A l.length c (dep hd 0 9 rfl rfl) rfl⟩
    case s2 =>
      exact fun a u hT h0 hA hd => .inl ⟨rfl, stp_neqI (On.refl _) (.tmp 10) 8 _ rfl (l.length : Nat) (dep hd 1 10 rfl rfl) (by show Value.bool _ = _; rw [hne8.out])⟩
    case s3 =>
      exact fun a u hT h0 hA hd => .inl ⟨rfl, StepOK.move (.tmp 11) rfl (dep hd 2 11 rfl rfl) (On.refl _)⟩
    case s4 =>
      exact fun a u hT h0 hA hd => .inr ⟨(wanted_of (g := 3) (want := false) (b := true) (d := 12) rfl rfl (dep hd 3 12 rfl rfl)).trans rfl, trivial⟩
    case s5 =>
      exact fun a u hT h0 hA hd => .inr ⟨(wanted_of (g := 3) (want := false) (b := true) (d := 12) rfl rfl (dep hd 3 12 rfl rfl)).trans rfl, trivial⟩
    case s6 =>
      exact fun a u hT h0 hA hd => .inr ⟨(wanted_of (g := 3) (want := false) (b := true) (d := 12) rfl rfl (dep hd 3 12 rfl rfl)).trans rfl, trivial⟩
    case s7 =>
      exact fun a u hT h0 hA hd => .inr ⟨(wanted_of (g := 3) (want := false) (b := true) (d := 12) rfl rfl (dep hd 3 12 rfl rfl)).trans rfl, trivial⟩
    case s8 =>
      exact fun a u hT h0 hA hd => .inr ⟨(wanted_of (g := 3) (want := false) (b := true) (d := 12) rfl rfl (dep hd 3 12 rfl rfl)).trans rfl, trivial⟩
    case s9 =>
      exact fun a u hT h0 hA hd => .inr ⟨(wanted_of (g := 3) (want := false) (b := true) (d := 12) rfl rfl (dep hd 3 12 rfl rfl)).trans rfl, trivial⟩
    case s10 =>
      exact fun a u hT h0 hA hd => .inr ⟨(wanted_of (g := 3) (want := false) (b := true) (d := 12) rfl rfl (dep hd 3 12 rfl rfl)).trans rfl, trivial⟩
    case s11 =>
      exact fun a u hT h0 hA hd => .inl ⟨rfl, stp_pickT (On.refl _) (.tmp 12) (.const (.bool true)) (.tmp 19) rfl (dep hd 3 12 rfl rfl) rfl⟩
  case rest =>
    intro vs u hT hR
    have h11 : vs 11 = .bool true := hR 11 (by decide)
    simp only [putsFrom, Act.put, List.setIfInBounds_toArray, List.set_cons_succ, List.set_cons_zero, h11]
    clear hR
    have hZ := hZ0.out.later hT
    clear hZ0 hT
    go_wp2_with (fail)
    refine (form_calls 0 _).mono ?_
    rintro e w9 ⟨rfl, hb9⟩
    have hz2 := hZ.later (hb9.mono (Nat.le_refl _))
    obtain ⟨g0, g1, g2⟩ := three_cells hz2.geom
    have f0 := one_frozen hz2.geom 0
    have f1 := one_frozen hz2.geom 1
    have f2 := one_frozen hz2.geom 2
    obtain ⟨m0, m1⟩ := two_cells hz2.fault
    have q0 := one_frozen hz2.fault 0
    have q1 := one_frozen hz2.fault 1
    have lt0 := lt_of_cells hz2.geom
    have lt1 := lt_of_cells hz2.fault
    have hbf := hz2.under
    clear hz2 hb9
    go_wp2_with (fail)
    exact bodyPost_ret (v := .tuple #[gv 0 0 0, .bool false, .agg #[.int .i64 0, .int .i64 7]]) (by simp [results, Tryd.results19, go_sem, g0, g1, g2, m0, m1]) rfl (DecV.bad hbad.out (((((hbf.setCell (p := ⟨w.heap.size, 0, none⟩) (Nat.le_refl _) _).setCell (p := ⟨w.heap.size, 1, none⟩) (Nat.le_refl _) _).setCell (p := ⟨w.heap.size, 2, none⟩) (Nat.le_refl _) _).setCell (p := ⟨w.heap.size + 1, 0, none⟩) (by simp) _).setCell (p := ⟨w.heap.size + 1, 1, none⟩) (by simp) _))
set_option maxRecDepth 100000 in
set_option maxHeartbeats 4000000 in
theorem rdecode_eight (A : Option Addr) (l : List Nat) (c : Nat) (w : World) (hr : Row w A l) (hl : Wd l) (h8 : l.length = 8) (hcap : 8 ≤ c) :
    Calls Tryd.prog 19 #[.slice A 8 c] w (DecV l w) := by
  have hZ0 := Lib.hid (Zro.begin w)
  have hrz := hr.below hZ0.out.under
  have hw0 : 0 < ((w.alloc (.cells #[.int .i64 0, .int .i64 0, .int .i64 0] 23)).alloc (.cells #[.int .i64 0, .int .i64 0] 48)).heap.size := by simp
  obtain ⟨b, off, sp, rfl, hbw, _, _⟩ := hr.eight h8
  obtain ⟨b', off', sp', e', hbl, hc0, hc1⟩ := hrz.eight h8
  injection e' with e'
  injection e' with e1 e2 e3
  subst e1 e2 e3
  have hbw := Lib.hid hbw
  have hc0 := Lib.hid hc0
  have hc1 := Lib.hid hc1
  have h8 := Lib.hid h8
  have hrz := Lib.hid hrz
  clear hr
  generalize hx : l.getD 0 0 = x0 at *
  have hx := Lib.hid hx
  go_enter Tryd.func19, Tryd.ntmps19
  go_wp2_with (fail)
  refine wp_region_rel2 (E := fun _ => false) (s := 100) (T0 := On) (T := On) (R := sps 0 titledO [.val (.slice (some ⟨b, off, sp⟩) 8 c), .val (.int .i64 8), .val (.bool false), .val (.bool false), .val (.slice (some ⟨b, off, sp⟩) 8 c), .val (.pointer (some ⟨b, off, sp⟩)), .val (.int .u64 (x0 : Nat)), .row [titleW], .cell (.int .u64 (titleW : Nat)), .val (.int .u64 (titleW : Nat)), .val (.bool ((x0 : Int) != (titleW : Nat))), .val (.bool ((x0 : Int) != (titleW : Nat)))])
    (by kernel_rfl) (by kernel_rfl) On.refl On.trans (fun h => h) On.trans (fun i v w w' h k => Sp2.stable h (WrT.on k)) (sps_un (by kernel_rfl)) (On.drawn _) (by kernel_rfl) ?steps ?rest
  case steps =>
    refine ⟨?s0, ?s1, ?s2, ?s3, ?s4, ?s5, ?s6, ?s7, ?s8, ?s9, ?s10, ?s11, trivial⟩
    case s0 =>
      exact fun a u hT h0 hA hd => .inl ⟨rfl, StepOK.move (.tmp 0) rfl (hA.eval 0 rfl) (On.refl _)⟩
    case s1 =>
      exact fun a u hT h0 hA hd => .inl ⟨rfl, stp_len (On.refl _) (.tmp 9) rfl (some ⟨b, off, sp⟩) 8 c (dep hd 0 9 rfl rfl) rfl⟩
    case s2 =>
      exact fun a u hT h0 hA hd => .inl ⟨rfl, stp_neqI (On.refl _) (.tmp 10) 8 _ rfl 8 (dep hd 1 10 rfl rfl) rfl⟩
    case s3 =>
      exact fun a u hT h0 hA hd => .inl ⟨rfl, StepOK.move (.tmp 11) rfl (dep hd 2 11 rfl rfl) (On.refl _)⟩
    case s4 =>
      exact fun a u hT h0 hA hd => .inl ⟨(wanted_of (g := 3) (want := false) (b := false) (d := 12) rfl rfl (dep hd 3 12 rfl rfl)).trans rfl, StepOK.move (.tmp 0) rfl (hA.eval 0 rfl) (On.refl _)⟩
    case s5 =>
      exact fun a u hT h0 hA hd => .inl ⟨(wanted_of (g := 3) (want := false) (b := false) (d := 12) rfl rfl (dep hd 3 12 rfl rfl)).trans rfl, stp_iaddr0 (On.refl _) (.tmp 13) rfl b off sp 8 c (dep hd 4 13 rfl rfl) (by decide) rfl⟩
    case s6 =>
      intro a u hT h0 hA hd
      exact .inl ⟨(wanted_of (g := 3) (want := false) (b := false) (d := 12) rfl rfl (dep hd 3 12 rfl rfl)).trans rfl, stp_load64 (On.refl _) (.tmp 14) rfl ⟨b, off, sp⟩ _ (dep hd 5 14 rfl rfl) ((World.cell?_of_block (a := ⟨b, off, sp⟩) (Below.block hT b hbl)).trans hc0.out) rfl⟩
    case s7 =>
      intro a u hT h0 hA hd
      have hz := Below.size hT
      refine .inl ⟨(wanted_of (g := 3) (want := false) (b := false) (d := 12) rfl rfl (dep hd 3 12 rfl rfl)).trans rfl, StepOK.call 18 #[.string titleS] ?_ ((rpack_title_calls u).mono ?_)⟩
      · unfold execOp
        simp [go_sem, titleS]
      · rintro e u' ⟨A1, c1, rfl, hr1, hfr, hb1⟩
        refine ⟨_, rfl, ⟨A1, c1, rfl, hr1, fun ad e => ?_⟩, hb1⟩
        obtain ⟨g, rfl, hg⟩ := hfr ad e
        show g ≠ _
        omega
    case s8 =>
      intro a u hT h0 hA hd
      obtain ⟨A1, c1, e2, hr1, hne1⟩ := (show (Sp2.row [titleW]).ok 0 titledO (a.eval (.tmp 16)) u from dep hd 7 16 rfl rfl)
      obtain ⟨⟨b1, o1, s1⟩, rfl, hl1, hc1⟩ := hr1 (by decide)
      exact .inl ⟨(wanted_of (g := 3) (want := false) (b := false) (d := 12) rfl rfl (dep hd 3 12 rfl rfl)).trans rfl, stp_iaddr0 (On.refl _) (.tmp 16) rfl b1 o1 s1 1 c1 e2 (by decide) ⟨⟨b1, o1, s1⟩, rfl, hl1, hc1 0 (by decide), hne1 _ rfl⟩⟩
    case s9 =>
      intro a u hT h0 hA hd
      obtain ⟨p, e2, hl1, hc1, hne1⟩ := (show (Sp2.cell (.int .u64 (titleW : Nat))).ok 0 titledO (a.eval (.tmp 17)) u from dep hd 8 17 rfl rfl)
      exact .inl ⟨(wanted_of (g := 3) (want := false) (b := false) (d := 12) rfl rfl (dep hd 3 12 rfl rfl)).trans rfl, stp_load64 (On.refl _) (.tmp 17) rfl p _ e2 hc1 rfl⟩
    case s10 =>
      exact fun a u hT h0 hA hd => .inl ⟨(wanted_of (g := 3) (want := false) (b := false) (d := 12) rfl rfl (dep hd 3 12 rfl rfl)).trans rfl, stp_neq64 (On.refl _) (.tmp 15) (.tmp 18) _ rfl (x0 : Nat) (titleW : Nat) (dep hd 6 15 rfl rfl) (dep hd 9 18 rfl rfl) rfl⟩
    case s11 =>
      exact fun a u hT h0 hA hd => .inl ⟨rfl, stp_pickF (On.refl _) (.tmp 12) (.const (.bool true)) (.tmp 19) rfl (dep hd 3 12 rfl rfl) (dep hd 10 19 rfl rfl)⟩
  case rest =>
    intro vs u hT hR
    have h11 : vs 11 = .bool ((x0 : Int) != (titleW : Nat)) := hR 11 (by decide)
    simp only [putsFrom, Act.put, List.setIfInBounds_toArray, List.set_cons_succ, List.set_cons_zero, h11]
    clear hR
    have hZ := hZ0.out.later hT
    have hr1 := hrz.out.below hT
    have d1 := (Below.cell hT (p := ⟨b, off + 1, none⟩) hbl).trans hc1.out
    have hbu : b < u.heap.size := Nat.lt_of_lt_of_le hbl (Below.size hT)
    clear hZ0 hT hrz hc0 hc1 hbl hw0
    generalize vs 4 = z4
    generalize vs 7 = z7
    by_cases ht : x0 = titleW
    case neg =>
      have e : ((x0 : Int) != (titleW : Nat)) = true := by rw [bne_iff_ne]; omega
      have hbad := Lib.hid (bad_title (l := l) (by rw [hx.out]; exact ht))
      rw [e]
      clear e ht d1 hr1
      go_wp2_with (fail)
      refine (form_calls 0 _).mono ?_
      rintro e w9 ⟨rfl, hb9⟩
      have hz2 := hZ.later (hb9.mono (Nat.le_refl _))
      obtain ⟨g0, g1, g2⟩ := three_cells hz2.geom
      have f0 := one_frozen hz2.geom 0
      have f1 := one_frozen hz2.geom 1
      have f2 := one_frozen hz2.geom 2
      obtain ⟨m0, m1⟩ := two_cells hz2.fault
      have q0 := one_frozen hz2.fault 0
      have q1 := one_frozen hz2.fault 1
      have lt0 := lt_of_cells hz2.geom
      have lt1 := lt_of_cells hz2.fault
      have hbf := hz2.under
      clear hz2 hb9
      go_wp2_with (fail)
      exact bodyPost_ret (v := .tuple #[gv 0 0 0, .bool false, .agg #[.int .i64 0, .int .i64 7]]) (by simp [results, Tryd.results19, go_sem, g0, g1, g2, m0, m1]) rfl (DecV.bad hbad.out (((((hbf.setCell (p := ⟨w.heap.size, 0, none⟩) (Nat.le_refl _) _).setCell (p := ⟨w.heap.size, 1, none⟩) (Nat.le_refl _) _).setCell (p := ⟨w.heap.size, 2, none⟩) (Nat.le_refl _) _).setCell (p := ⟨w.heap.size + 1, 0, none⟩) (by simp) _).setCell (p := ⟨w.heap.size + 1, 1, none⟩) (by simp) _))
    have e : ((x0 : Int) != (titleW : Nat)) = false := by rw [ht]; simp
    have ht2 : l.getD 0 0 = titleW := by rw [hx.out]; exact ht
    rw [e]
    clear e ht
    have hO := ropen_calls (some ⟨b, off, sp⟩) l c u hr1 hl (by rw [h8.out]; decide) (by rw [h8.out]; exact hcap)
    rw [h8.out] at hO
    go_wp2_with (fail)
    refine hO.mono ?_
    clear hO
    rintro e w2 ⟨A2, c2, rfl, hr2, hf2, hb2, hc2⟩
    have hZ2 := hZ.later hb2
    have hr3 := hr1.below hb2
    have d2 := (hb2.cell (p := ⟨b, off + 1, none⟩) hbu).trans d1
    have hbu2 : b < w2.heap.size := Nat.lt_of_lt_of_le hbu hb2.size
    clear hr2 hf2 hc2 hZ hb2 hr1 d1 hbu
    have hZ := hZ2
    clear hZ2
    by_cases hs : isSealed l
    case neg =>
      have hbad := Lib.hid (bad_seal h8.out ht2 hs)
      rw [openB_no hs]
      clear ht2 hs d2 hr3
      go_wp2_with (fail)
      refine (form_calls 7 _).mono ?_
      rintro e w9 ⟨rfl, hb9⟩
      have hz2 := hZ.later (hb9.mono (Nat.le_refl _))
      obtain ⟨g0, g1, g2⟩ := three_cells hz2.geom
      have f0 := one_frozen hz2.geom 0
      have f1 := one_frozen hz2.geom 1
      have f2 := one_frozen hz2.geom 2
      obtain ⟨m0, m1⟩ := two_cells hz2.fault
      have q0 := one_frozen hz2.fault 0
      have q1 := one_frozen hz2.fault 1
      have lt0 := lt_of_cells hz2.geom
      have lt1 := lt_of_cells hz2.fault
      have hbf := hz2.under
      clear hz2 hb9
      go_wp2_with (fail)
      exact bodyPost_ret (v := .tuple #[gv 0 0 0, .bool false, .agg #[.int .i64 7, .int .i64 7]]) (by simp [results, Tryd.results19, go_sem, g0, g1, g2, m0, m1]) rfl (DecV.bad hbad.out (((((hbf.setCell (p := ⟨w.heap.size, 0, none⟩) (Nat.le_refl _) _).setCell (p := ⟨w.heap.size, 1, none⟩) (Nat.le_refl _) _).setCell (p := ⟨w.heap.size, 2, none⟩) (Nat.le_refl _) _).setCell (p := ⟨w.heap.size + 1, 0, none⟩) (by simp) _).setCell (p := ⟨w.heap.size + 1, 1, none⟩) (by simp) _))
    rw [openB_yes hs]
    have hS : Sld l := ⟨h8.out, ht2, hs⟩
    have hl1 := hl 1
    have HS := Lib.hid hS
    clear hS ht2 hs
    generalize openL l = ol
    generalize hfe : l.getD 1 0 = f at *
    have hfe := Lib.hid hfe
    have hZh := Lib.hid hZ
    clear hZ
    go_wp2_with (fail)
    go_region
    have eP : Hid ((f : Int) % 65536 = ((fP f : Nat) : Int)) := Lib.hid (by unfold fP; omega)
    have eI : Hid ((f : Int) / 65536 % 65536 = ((fI f : Nat) : Int)) := Lib.hid (by unfold fI; omega)
    have eB : Hid ((f : Int) / 4294967296 % 65536 = ((fB f : Nat) : Int)) := Lib.hid (by unfold fB; omega)
    rw [eP.out, eI.out, eB.out]
    have hon : On w2 (w2.alloc (.cells #[.int .i64 (fP f : Nat), .int .i64 (fI f : Nat), .int .i64 (fB f : Nat)] 23)).drew := ((Below.refl _ _).alloc (Nat.le_refl _) _).drew
    have hb7 : (w2.alloc (.cells #[.int .i64 (fP f : Nat), .int .i64 (fI f : Nat), .int .i64 (fB f : Nat)] 23)).drew.heap[w2.heap.size]? = some (.cells #[.int .i64 (fP f : Nat), .int .i64 (fI f : Nat), .int .i64 (fB f : Nat)] 23) := heap_alloc_new w2 _
    have hZ3 := hZh.out.later hon
    have hr4 := hr3.below hon
    have d3 := (Below.cell hon (p := ⟨b, off + 1, none⟩) hbu2).trans d2
    have hbu3 := Nat.lt_of_lt_of_le hbu2 (Below.size hon)
    have h7lt := hZh.out.under.size
    have h7ne : w.heap.size + 1 < w2.heap.size := lt_of_cells hZh.out.fault
    clear hZh hr3 hbu2 d2 eP eI eB
    generalize (w2.alloc (.cells #[.int .i64 (fP f : Nat), .int .i64 (fI f : Nat), .int .i64 (fB f : Nat)] 23)).drew = w3 at *
    generalize w2.heap.size = b7 at *
    clear hon
    have hZ := hZ3
    clear hZ3
    by_cases hhi : f < 562949953421312
    case neg =>
      have hbad := Lib.hid (bad_high HS.out (by rw [hfe.out]; exact hhi))
      have h1 : 1 < (f : Int) / 281474976710656 := by omega
      clear hhi hr4
      go_wp2_with (fail)
      refine (form_calls 1 _).mono ?_
      rintro e w9 ⟨rfl, hb9⟩
      have hz2 := hZ.later (hb9.mono (Nat.le_refl _))
      obtain ⟨g0, g1, g2⟩ := three_cells hz2.geom
      have f0 := one_frozen hz2.geom 0
      have f1 := one_frozen hz2.geom 1
      have f2 := one_frozen hz2.geom 2
      obtain ⟨m0, m1⟩ := two_cells hz2.fault
      have q0 := one_frozen hz2.fault 0
      have q1 := one_frozen hz2.fault 1
      have lt0 := lt_of_cells hz2.geom
      have lt1 := lt_of_cells hz2.fault
      have hbf := hz2.under
      clear hz2 hb9
      go_wp2_with (fail)
      exact bodyPost_ret (v := .tuple #[gv 0 0 0, .bool false, .agg #[.int .i64 1, .int .i64 7]]) (by simp [results, Tryd.results19, go_sem, g0, g1, g2, m0, m1]) rfl (DecV.bad hbad.out (((((hbf.setCell (p := ⟨w.heap.size, 0, none⟩) (Nat.le_refl _) _).setCell (p := ⟨w.heap.size, 1, none⟩) (Nat.le_refl _) _).setCell (p := ⟨w.heap.size, 2, none⟩) (Nat.le_refl _) _).setCell (p := ⟨w.heap.size + 1, 0, none⟩) (by simp) _).setCell (p := ⟨w.heap.size + 1, 1, none⟩) (by simp) _))
    have hle : (f : Int) / 281474976710656 ≤ 1 := by omega
    have hd1 : decide (1 < (f : Int) / 281474976710656) = false := by rw [decide_eq_false_iff_not]; omega
    have hhi := Lib.hid hhi
    obtain ⟨a0, a1, a2⟩ := three_cells hb7
    have hl7 := lt_of_cells hb7
    have hb7h := Lib.hid hb7
    clear hb7
    by_cases hG : GOK (fP f) (fI f) (fB f)
    case neg =>
      have hbad := Lib.hid (bad_geom HS.out (by unfold Gd; rw [hfe.out]; exact hG))
      have HG := Lib.hid hG
      have hZh := Lib.hid hZ
      clear hG hr4 hZ
      go_wp2_with (fail)
      refine (may_no (fP f) (fI f) (fB f) _ HG.out).mono ?_
      rintro e w4 ⟨rfl, hb4⟩
      have hZ := hZh.out.later hb4
      clear a0 a1 a2 hb4 hZh
      go_wp2_with (fail)
      refine (form_calls 1 _).mono ?_
      rintro e w9 ⟨rfl, hb9⟩
      have hz2 := hZ.later (hb9.mono (Nat.le_refl _))
      obtain ⟨g0, g1, g2⟩ := three_cells hz2.geom
      have f0 := one_frozen hz2.geom 0
      have f1 := one_frozen hz2.geom 1
      have f2 := one_frozen hz2.geom 2
      obtain ⟨m0, m1⟩ := two_cells hz2.fault
      have q0 := one_frozen hz2.fault 0
      have q1 := one_frozen hz2.fault 1
      have lt0 := lt_of_cells hz2.geom
      have lt1 := lt_of_cells hz2.fault
      have hbf := hz2.under
      clear hz2 hb9
      go_wp2_with (fail)
      exact bodyPost_ret (v := .tuple #[gv 0 0 0, .bool false, .agg #[.int .i64 1, .int .i64 7]]) (by simp [results, Tryd.results19, go_sem, g0, g1, g2, m0, m1]) rfl (DecV.bad hbad.out (((((hbf.setCell (p := ⟨w.heap.size, 0, none⟩) (Nat.le_refl _) _).setCell (p := ⟨w.heap.size, 1, none⟩) (Nat.le_refl _) _).setCell (p := ⟨w.heap.size, 2, none⟩) (Nat.le_refl _) _).setCell (p := ⟨w.heap.size + 1, 0, none⟩) (by simp) _).setCell (p := ⟨w.heap.size + 1, 1, none⟩) (by simp) _))
    have HG := Lib.hid hG
    have hZh := Lib.hid hZ
    clear hG hZ
    go_wp2_with (fail)
    refine (may_yes (fP f) (fI f) (fB f) _ HG.out).mono ?_
    rintro e w4 ⟨rfl, hb4⟩
    have hZ := Lib.hid (hZh.out.later hb4)
    have hr5 := hr4.below hb4
    have d4 := (hb4.cell (p := ⟨b, off + 1, none⟩) hbu3).trans d3
    have hb74 := Lib.hid ((hb4.block _ hl7).trans hb7h.out)
    clear a0 a1 a2 hZh hr4 d3 hbu3 hb7h hl7 hb4
    go_wp2_with (fail)
    go_loop [8] (fun i => ∃ k : Nat, i = .int .i64 k ∧ 2 ≤ k ∧ k ≤ 7 ∧ Zs l k) (fun i => 7 - (intOf i).toNat)
    case atStart => exact ⟨2, rfl, by decide, by decide, ⟨fun j h1 h2 => by omega⟩⟩
    case round =>
      obtain ⟨k, rfl, hk2, hk7, hz⟩ := hrel
      by_cases hlt7 : k < 7
      · have cA := eight_at hr5 (k := k) (by rw [h8.out]; omega)
        have hk8 : k < 8 := by omega
        by_cases he : l.getD k 0 = 0
        · have hz1 : Hid (Zs l (k + 1)) := Lib.hid ⟨fun j h1 h2 => by
            by_cases hjk : j = k
            · rw [hjk]; exact he
            · exact hz.all j h1 (by omega)⟩
          rw [he] at cA
          clear he hz
          go_wp2_with (fail)
          go_round
          case rel => exact ⟨k + 1, by go_num, by omega, by omega, hz1.out⟩
          case measure => simp [intOf]; omega
        · have hbad := Lib.hid (bad_mid HS.out (by unfold Gd; rw [hfe.out]; exact HG.out) (by rw [hfe.out]; exact hhi.out) hk2 (by omega) hz.all he)
          have hne : (((l.getD k 0 : Nat) : Int) != 0) = true := by rw [bne_iff_ne]; omega
          clear he hz d4
          generalize l.getD k 0 = x at *
          have hZh := hZ.out
          clear hZ
          have hZ := hZh
          clear hZh
          go_wp2_with (fail)
          refine (form_calls (k : Nat) _).mono ?_
          rintro e w9 ⟨rfl, hb9⟩
          have hz2 := hZ.later (hb9.mono (Nat.le_refl _))
          obtain ⟨g0, g1, g2⟩ := three_cells hz2.geom
          have f0 := one_frozen hz2.geom 0
          have f1 := one_frozen hz2.geom 1
          have f2 := one_frozen hz2.geom 2
          obtain ⟨m0, m1⟩ := two_cells hz2.fault
          have q0 := one_frozen hz2.fault 0
          have q1 := one_frozen hz2.fault 1
          have lt0 := lt_of_cells hz2.geom
          have lt1 := lt_of_cells hz2.fault
          have hbf := hz2.under
          clear hz2 hb9
          go_wp2_with (fail)
          exact bodyPost_ret (v := .tuple #[gv 0 0 0, .bool false, .agg #[.int .i64 (k : Nat), .int .i64 7]]) (by simp [results, Tryd.results19, go_sem, g0, g1, g2, m0, m1]) rfl (DecV.bad hbad.out (((((hbf.setCell (p := ⟨w.heap.size, 0, none⟩) (Nat.le_refl _) _).setCell (p := ⟨w.heap.size, 1, none⟩) (Nat.le_refl _) _).setCell (p := ⟨w.heap.size, 2, none⟩) (Nat.le_refl _) _).setCell (p := ⟨w.heap.size + 1, 0, none⟩) (by simp) _).setCell (p := ⟨w.heap.size + 1, 1, none⟩) (by simp) _))
      · obtain rfl : k = 7 := by omega
        have hbad := Lib.hid (bad_all HS.out (by unfold Gd; rw [hfe.out]; exact HG.out) (by rw [hfe.out]; exact hhi.out) hz.all)
        obtain ⟨a0, a1, a2⟩ := three_cells hb74.out
        have hl7 := lt_of_cells hb74.out
        have hz2 := hZ.out
        obtain ⟨g0, g1, g2⟩ := three_cells hz2.geom
        have f0 := one_frozen hz2.geom 0
        have f1 := one_frozen hz2.geom 1
        have f2 := one_frozen hz2.geom 2
        obtain ⟨m0, m1⟩ := two_cells hz2.fault
        have q0 := one_frozen hz2.fault 0
        have q1 := one_frozen hz2.fault 1
        have lt0 := lt_of_cells hz2.geom
        have lt1 := lt_of_cells hz2.fault
        have hbf := hz2.under
        clear hz hz2 hr5
        have n1 : ¬ b = w.heap.size := by have := hbw.out; omega
        have n2 : ¬ b = w.heap.size + 1 := by have := hbw.out; omega
        have n3 : ¬ b7 = w.heap.size := by omega
        have n4 : ¬ b7 = w.heap.size + 1 := by omega
        go_wp2_with (fail)
        go_region
        have eH : ((f : Int) / 281474976710656 == 1) = hB f := by
          rw [← hB_eq]
          have : ((fH f : Nat) : Int) = (f : Int) / 281474976710656 := by unfold fH; have := hhi.out; omega
          rw [this]
        rw [eH]
        clear eH
        have hgd := fun w' hb' => DecV.good (w := w) (w' := w') hbad.out hb'
        rw [hfe.out] at hgd
        go_wp2_with (fail)
        exact bodyPost_ret (v := .tuple #[gv (fP f : Nat) (fI f : Nat) (fB f : Nat), .bool (hB f), .agg #[.int .i64 0, .int .i64 0]]) (by simp [results, Tryd.results19, go_sem, g0, g1, g2, m0, m1]) rfl (hgd _ (((((hbf.setCell (p := ⟨w.heap.size, 0, none⟩) (Nat.le_refl _) _).setCell (p := ⟨w.heap.size, 1, none⟩) (Nat.le_refl _) _).setCell (p := ⟨w.heap.size, 2, none⟩) (Nat.le_refl _) _).setCell (p := ⟨w.heap.size + 1, 0, none⟩) (by simp) _).setCell (p := ⟨w.heap.size + 1, 1, none⟩) (by simp) _).drew)
theorem rdecode_calls (A : Option Addr) (l : List Nat) (c : Nat) (w : World) (hr : Row w A l) (hl : Wd l) (hcap : l.length ≤ c) :
    Calls Tryd.prog 19 #[.slice A l.length c] w (DecV l w) := by
  by_cases h8 : l.length = 8
  · have h := rdecode_eight A l c w hr hl h8 (by omega)
    rw [← h8] at h
    exact h
  · exact rdecode_len A l c w h8
end Go.Proofs.YtgedahjifbopcaaDoor
