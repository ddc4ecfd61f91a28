/- The document's access list, out of words. -/
import Derived.Test.YtlejmpinfbmccaaGreatDoorFd
import Derived.Test.YtlejmpinfbmccaaGreatDoorRd
set_option linter.unusedSimpArgs false
set_option linter.unusedVariables false
set_option linter.unusedSimpArgs false
set_option linter.unusedVariables false
namespace Go.Proofs.YtlejmpinfbmccaaGreatDoor
open Go.RowKit WordMath
abbrev zL : Array Value := #[.int .u8 0, .int .u8 0, .int .u8 0, .slice none 0 0, .slice none 0 0, .bool false, .int .u8 0]
/-- A list's rows: rows of one's own. -/
structure LiesO (w : World) (x : Ac) (p : Lie) : Prop where
  us : OwnR w 54 2 p.A x.us.length p.c (nv x.us)
  gs : OwnR w 54 2 p.B x.gs.length p.d (nv x.gs)
theorem LiesO.lies {w : World} {x : Ac} {p : Lie} (h : LiesO w x p) : Lies w x p := ⟨h.us.cel, h.gs.cel⟩
theorem LiesO.below {w w' : World} {x : Ac} {p : Lie} (h : LiesO w x p) (hb : Below w.heap.size w w') : LiesO w' x p :=
  ⟨h.us.keep fun ad e => hb.block _ (h.us.lt ad e), h.gs.keep fun ad e => hb.block _ (h.gs.lt ad e)⟩
theorem OwnR.apart {w : World} {e e' : TypeId} {size n c g : Nat} {A : Option Addr} {xs : List Value} {C : Array Value} (h : OwnR w e size A n c xs) (hg : w.heap[g]? = some (.cells C e' (0, 0))) (he : e ≠ e') : ∀ ad, A = some ad → ad.block ≠ g := fun ad hA hbl => by
  obtain ⟨_, _, _, h4⟩ := h
  rcases h4 with ⟨h4, _⟩ | ⟨g', cur, h4, hg', _⟩
  · rw [h4] at hA; cases hA
  · rw [h4] at hA; injection hA with hA; subst hA
    simp only at hbl
    subst hbl
    rw [hg] at hg'
    injection hg' with hg'
    injection hg' with _ h5
    exact he h5.symm
/-- A block of another type turns: the rows stay. -/
theorem LiesO.keep {w w' : World} {x : Ac} {p : Lie} {g : Nat} {C : Array Value} {e' : TypeId} (h : LiesO w x p) (hg : w.heap[g]? = some (.cells C e' (0, 0))) (he : 54 ≠ e') (hk : ∀ j, j < w.heap.size → j ≠ g → w'.heap[j]? = w.heap[j]?) : LiesO w' x p :=
  ⟨h.us.keep fun ad e => hk _ (h.us.lt ad e) (h.us.apart hg he ad e), h.gs.keep fun ad e => hk _ (h.gs.lt ad e) (h.gs.apart hg he ad e)⟩
set_option maxRecDepth 100000 in
set_option maxHeartbeats 4000000 in
theorem list_calls (A : Option Addr) (l : List Nat) (c h g : Nat) (w : World) (hr : Row w A l) (hw : Wd l) (hh : h < l.length) (hg : g + 4 ≤ l.length) (hlen : l.length ≤ 1099511627776) :
    Calls Tryz.prog 71 #[.slice A l.length c, .int .i64 (h : Nat), .int .i64 (g : Nat)] w fun e w' => ∃ p, e = .returned ((rdAc l h g).v p) ∧ LiesO w' (rdAc l h g) p ∧ Below w.heap.size w w' := by
  have hx : rdAc l h g = ⟨fld (l.getD h 0) 0 4, fld (l.getD h 0) 4 4, fld (l.getD h 0) 8 4, whoL l g (fld (l.getD h 0) 20 4), whoL l (g + 2) (fld (l.getD h 0) 24 4), decide (fld (l.getD h 0) 16 1 = 1), fld (l.getD h 0) 12 4⟩ := rfl
  rw [hx]
  clear hx
  have HW := Lib.hid hw
  obtain ⟨V, hV⟩ : ∃ V, V = w.alloc (.cells zL 25) := ⟨_, rfl⟩
  have bV : Below w.heap.size w V := by rw [hV]; exact (Below.refl _ _).alloc (Nat.le_refl _) _
  have HZ : Hid (V.heap[w.heap.size]? = some (.cells zL 25 (0, 0))) := Lib.hid (by rw [hV]; exact heap_alloc_new w _)
  have B0 := Lib.hid bV
  have R0 := Lib.hid (hr.below bV)
  have hhi : (h : Int) < (l.length : Int) := by omega
  obtain ⟨ad, rfl, hlt, hcs⟩ := R0.out (by omega)
  have hcl := hcs h hh
  have hwd := hw h
  clear hr hw bV hcs
  obtain ⟨xw, hxw⟩ : ∃ xw, l.getD h 0 = xw := ⟨_, rfl⟩
  rw [hxw] at hcl hwd ⊢
  clear hxw
  have cf0 := fun u => field_calls xw 0 4 u hwd (by decide) (by decide)
  have bf0 := fld_lt xw 0 4
  obtain ⟨f0, hf0⟩ : ∃ f0, fld xw 0 4 = f0 := ⟨_, rfl⟩
  rw [hf0] at bf0 ⊢
  simp only [hf0] at cf0
  have Hf0 := Lib.hid cf0
  clear hf0 cf0
  have cf1 := fun u => field_calls xw 4 4 u hwd (by decide) (by decide)
  have bf1 := fld_lt xw 4 4
  obtain ⟨f1, hf1⟩ : ∃ f1, fld xw 4 4 = f1 := ⟨_, rfl⟩
  rw [hf1] at bf1 ⊢
  simp only [hf1] at cf1
  have Hf1 := Lib.hid cf1
  clear hf1 cf1
  have cf2 := fun u => field_calls xw 8 4 u hwd (by decide) (by decide)
  have bf2 := fld_lt xw 8 4
  obtain ⟨f2, hf2⟩ : ∃ f2, fld xw 8 4 = f2 := ⟨_, rfl⟩
  rw [hf2] at bf2 ⊢
  simp only [hf2] at cf2
  have Hf2 := Lib.hid cf2
  clear hf2 cf2
  have cf3 := fun u => field_calls xw 12 4 u hwd (by decide) (by decide)
  have bf3 := fld_lt xw 12 4
  obtain ⟨f3, hf3⟩ : ∃ f3, fld xw 12 4 = f3 := ⟨_, rfl⟩
  rw [hf3] at bf3 ⊢
  simp only [hf3] at cf3
  have Hf3 := Lib.hid cf3
  clear hf3 cf3
  have cf4 := fun u => field_calls xw 16 1 u hwd (by decide) (by decide)
  have bf4 := fld_lt xw 16 1
  obtain ⟨f4, hf4⟩ : ∃ f4, fld xw 16 1 = f4 := ⟨_, rfl⟩
  rw [hf4] at bf4 ⊢
  simp only [hf4] at cf4
  have Hf4 := Lib.hid cf4
  clear hf4 cf4
  have cf5 := fun u => field_calls xw 20 4 u hwd (by decide) (by decide)
  have bf5 := fld_lt xw 20 4
  obtain ⟨f5, hf5⟩ : ∃ f5, fld xw 20 4 = f5 := ⟨_, rfl⟩
  rw [hf5] at bf5 ⊢
  simp only [hf5] at cf5
  have Hf5 := Lib.hid cf5
  clear hf5 cf5
  have cf6 := fun u => field_calls xw 24 4 u hwd (by decide) (by decide)
  have bf6 := fld_lt xw 24 4
  obtain ⟨f6, hf6⟩ : ∃ f6, fld xw 24 4 = f6 := ⟨_, rfl⟩
  rw [hf6] at bf6 ⊢
  simp only [hf6] at cf6
  have Hf6 := Lib.hid cf6
  clear hf6 cf6
  have e4 : ((f4 : Int) == 1) = decide (f4 = 1) := by rw [Bool.eq_iff_iff, beq_iff_eq, decide_eq_true_eq]; omega
  obtain ⟨bb, hbb⟩ : ∃ bb, decide (f4 = 1) = bb := ⟨_, rfl⟩
  rw [hbb] at e4 ⊢
  clear hbb
  have HL1 : (whoL l g f5).length = min f5 4 := by unfold whoL; simp
  have HL2 : (whoL l (g + 2) f6).length = min f6 4 := by unfold whoL; simp
  have cw1 := fun u (hr : Row u (some ad) l) => who_calls (some ad) l c g f5 u hr HW.out (by omega) hlen (by omega)
  have cw2 := fun u (hr : Row u (some ad) l) => who_calls (some ad) l c (g + 2) f6 u hr HW.out (by omega) hlen (by omega)
  obtain ⟨L1, hL1⟩ : ∃ L1, whoL l g f5 = L1 := ⟨_, rfl⟩
  obtain ⟨L2, hL2⟩ : ∃ L2, whoL l (g + 2) f6 = L2 := ⟨_, rfl⟩
  rw [hL1] at HL1 ⊢
  rw [hL2] at HL2 ⊢
  have eg : ((g + 2 : Nat) : Int) = (g : Int) + 2 := by omega
  simp only [hL1, ← HL1] at cw1
  simp only [hL2, ← HL2, eg] at cw2
  have CW1 := Lib.hid cw1
  have CW2 := Lib.hid cw2
  clear hL1 hL2 HL1 HL2 eg cw1 cw2
  go_enter Tryz.func71, Tryz.ntmps71
  go_upto_region 1 with (fail)
  rw [← hV]
  clear hV
  go_wp2_with (fail)
  refine (Hf0.out _).mono ?_
  rintro e u0 ⟨rfl, rfl⟩
  go_wp2_with (fail)
  refine (Hf1.out _).mono ?_
  rintro e u1 ⟨rfl, rfl⟩
  go_wp2_with (fail)
  refine (Hf2.out _).mono ?_
  rintro e u2 ⟨rfl, rfl⟩
  go_wp2_with (fail)
  refine (Hf3.out _).mono ?_
  rintro e u3 ⟨rfl, rfl⟩
  go_wp2_with (fail)
  refine (Hf4.out _).mono ?_
  rintro e u4 ⟨rfl, rfl⟩
  go_wp2_with (fail)
  refine (Hf5.out _).mono ?_
  rintro e u5 ⟨rfl, rfl⟩
  go_wp2_with (fail)
  refine (CW1.out u5 R0.out).mono ?_
  rintro e w1 ⟨B1, c1, rfl, hM1, hb1⟩
  have HZ1 := Lib.hid ((hb1.block _ (lt_of_cells HZ.out)).trans HZ.out)
  have B1' := Lib.hid (B0.out.trans (hb1.mono B0.out.size))
  have R1 := Lib.hid (R0.out.below hb1)
  have M1 := Lib.hid hM1.1
  have HN1 : Hid (∀ ad, B1 = some ad → ad.block ≠ w.heap.size) := Lib.hid (fun ad e => by have := hM1.2 ad e; have := lt_of_cells HZ.out; omega)
  clear hb1 hM1
  go_wp2_with (fail)
  refine (Hf6.out _).mono ?_
  rintro e u6 ⟨rfl, rfl⟩
  go_wp2_with (fail)
  refine (CW2.out u6 R1.out).mono ?_
  rintro e w2 ⟨B2, c2, rfl, hM2, hb2⟩
  have HZ2 := Lib.hid ((hb2.block _ (lt_of_cells HZ1.out)).trans HZ1.out)
  have BB := Lib.hid (B1'.out.trans (hb2.mono B1'.out.size))
  have M2 := Lib.hid hM2.1
  have HN2 : Hid (∀ ad, B2 = some ad → ad.block ≠ w.heap.size) := Lib.hid (fun ad e => by have := hM2.2 ad e; have := lt_of_cells HZ1.out; omega)
  have M1' := Lib.hid (M1.out.keep fun ad e => hb2.block _ (M1.out.lt ad e))
  clear hb2 hM2 R0 R1 M1 HZ HZ1 B0 B1' Hf0 Hf1 Hf2 Hf3 Hf4 Hf5 Hf6 hcl hlt hwd
  obtain ⟨C, hC⟩ : ∃ C : Array Value, C = #[.int .u8 (f0 : Nat), .int .u8 (f1 : Nat), .int .u8 (f2 : Nat), .slice B1 L1.length c1, .slice B2 L2.length c2, .bool bb, .int .u8 (f3 : Nat)] := ⟨_, rfl⟩
  have hone : C.all (·.oneCell') = true := by rw [hC, ← Array.all_toList]; rfl
  obtain ⟨U, hU⟩ : ∃ U, U = w2.setRow w.heap.size C := ⟨_, rfl⟩
  have HF : Hid (U.heap[w.heap.size]? = some (.cells C 25 (0, 0))) := Lib.hid (by rw [hU]; exact setRow_heap _ _ _ _ _ _ HZ2.out)
  have HBU : Hid (Below w.heap.size w U) := Lib.hid (by rw [hU]; exact below_setRow BB.out (Nat.le_refl _) _)
  have HLI : Hid (LiesO U ⟨f0, f1, f2, L1, L2, bb, f3⟩ ⟨B1, c1, B2, c2⟩) := Lib.hid (by
    have keep : ∀ (A : Option Addr) (L : List Nm) (k : Nat), OwnR w2 54 2 A L.length k (nv L) → (∀ ad, A = some ad → ad.block ≠ w.heap.size) → OwnR U 54 2 A L.length k (nv L) := fun A L k hc hn => by
      rw [hU]
      exact hc.keep fun ad e => setRow_other _ _ _ _ (hn ad e)
    exact ⟨keep _ _ _ M1'.out HN1.out, keep _ _ _ M2.out HN2.out⟩)
  have HZ3 := HZ2.out
  clear M1' M2 HZ2 BB
  have hsz : (Tryz.prog.info? 25).map (·.size) = some C.size := by rw [hC]; exact acl_size
  have hold : (zL : Array Value).size = C.size := by rw [hC]; rfl
  have HZ4 := Lib.hid HZ3
  clear HZ3
  subst hC
  go_wp2_with (refine wpList_store_rowTo rfl 25 (.tmp 6) (.tmp 38) rfl rfl w.heap.size #[.int .u8 (f0 : Nat), .int .u8 (f1 : Nat), .int .u8 (f2 : Nat), .slice B1 L1.length c1, .slice B2 L2.length c2, .bool bb, .int .u8 (f3 : Nat)] rfl rfl 25 _ HZ4.out hsz hold hone ?_; rw [← hU])
  exact bodyPost_ret (v := .agg #[.int .u8 (f0 : Nat), .int .u8 (f1 : Nat), .int .u8 (f2 : Nat), .slice B1 L1.length c1, .slice B2 L2.length c2, .bool bb, .int .u8 (f3 : Nat)]) (results_cell_row rfl _ _ w.heap.size 25 _ (0, 0) _ rfl HF.out Tryz.underlying25 rfl hsz) rfl ⟨⟨B1, c1, B2, c2⟩, rfl, HLI.out, HBU.out⟩
end Go.Proofs.YtlejmpinfbmccaaGreatDoor
