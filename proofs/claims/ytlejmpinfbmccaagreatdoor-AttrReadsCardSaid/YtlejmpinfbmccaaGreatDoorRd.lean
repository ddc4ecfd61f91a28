/- The attributes that words have, read. -/
import Derived.Test.YtlejmpinfbmccaaGreatDoorTapeR
import Derived.Test.YtlejmpinfbmccaaGreatDoorWr
import Derived.Great.BuildSlice
set_option linter.unusedSimpArgs false
set_option linter.unusedVariables false
set_option linter.unusedSimpArgs false
set_option linter.unusedVariables false
namespace Go.Proofs.YtlejmpinfbmccaaGreatDoor
open Go.RowKit WordMath
/-- The attributes that the fields of words have. -/
def rdP (l : List Nat) : At :=
  ⟨fld (l.getD 0 0) 0 3, fld (l.getD 1 0) 0 16, fld (l.getD 1 0) 16 16, rdAc l 2 4, decide (fld (l.getD 0 0) 3 1 = 1), rdAc l 3 8, xaL l 12 (fld (l.getD 0 0) 4 4)⟩
abbrev zA : Array Value := #[.int .u8 0, .int .u16 0, .int .u16 0, .int .u8 0, .int .u8 0, .int .u8 0, .slice none 0 0, .slice none 0 0, .bool false, .int .u8 0, .bool false, .int .u8 0, .int .u8 0, .int .u8 0, .slice none 0 0, .slice none 0 0, .bool false, .int .u8 0, .slice none 0 0]
set_option maxRecDepth 100000 in
theorem built_tape (l : List Nat) (h : l.length = 31) : Tryz.prog.built 91 [(0, .agg (wv l).toArray)] = some ((wv l).toArray.push (.int .i64 (0 : Nat))) := by
  rcases l with _ | ⟨a0, l⟩
  · simp at h
  rcases l with _ | ⟨a1, l⟩
  · simp at h
  rcases l with _ | ⟨a2, l⟩
  · simp at h
  rcases l with _ | ⟨a3, l⟩
  · simp at h
  rcases l with _ | ⟨a4, l⟩
  · simp at h
  rcases l with _ | ⟨a5, l⟩
  · simp at h
  rcases l with _ | ⟨a6, l⟩
  · simp at h
  rcases l with _ | ⟨a7, l⟩
  · simp at h
  rcases l with _ | ⟨a8, l⟩
  · simp at h
  rcases l with _ | ⟨a9, l⟩
  · simp at h
  rcases l with _ | ⟨a10, l⟩
  · simp at h
  rcases l with _ | ⟨a11, l⟩
  · simp at h
  rcases l with _ | ⟨a12, l⟩
  · simp at h
  rcases l with _ | ⟨a13, l⟩
  · simp at h
  rcases l with _ | ⟨a14, l⟩
  · simp at h
  rcases l with _ | ⟨a15, l⟩
  · simp at h
  rcases l with _ | ⟨a16, l⟩
  · simp at h
  rcases l with _ | ⟨a17, l⟩
  · simp at h
  rcases l with _ | ⟨a18, l⟩
  · simp at h
  rcases l with _ | ⟨a19, l⟩
  · simp at h
  rcases l with _ | ⟨a20, l⟩
  · simp at h
  rcases l with _ | ⟨a21, l⟩
  · simp at h
  rcases l with _ | ⟨a22, l⟩
  · simp at h
  rcases l with _ | ⟨a23, l⟩
  · simp at h
  rcases l with _ | ⟨a24, l⟩
  · simp at h
  rcases l with _ | ⟨a25, l⟩
  · simp at h
  rcases l with _ | ⟨a26, l⟩
  · simp at h
  rcases l with _ | ⟨a27, l⟩
  · simp at h
  rcases l with _ | ⟨a28, l⟩
  · simp at h
  rcases l with _ | ⟨a29, l⟩
  · simp at h
  rcases l with _ | ⟨a30, l⟩
  · simp at h
  rcases l with _ | ⟨x, l⟩
  · kernel_rfl
  · simp at h
theorem Tr.setCell {w : World} {b i : Nat} {l : List Nat} (h : Tr w b l i) {p : Addr} (v : Value) (hne : b ≠ p.block) : Tr (w.setCell p v) b l i := (Below.heap_setCell w p v b hne).trans h
theorem cells_set {w : World} {b : Nat} {cs : Array Value} {t : TypeId} (h : w.heap[b]? = some (.cells cs t (0, 0))) {p : Addr} (v : Value) (hne : b ≠ p.block) : (w.setCell p v).heap[b]? = some (.cells cs t (0, 0)) := (Below.heap_setCell w p v b hne).trans h
theorem cells_on {w w' : World} {b : Nat} {cs : Array Value} {t : TypeId} (h : w.heap[b]? = some (.cells cs t (0, 0))) (hb : Below w.heap.size w w') : w'.heap[b]? = some (.cells cs t (0, 0)) := (hb.block _ (lt_of_cells h)).trans h
theorem cells_keep {w w' : World} {b g : Nat} {cs : Array Value} {t : TypeId} (h : w.heap[b]? = some (.cells cs t (0, 0))) (ho : OnlyB g w w') (hne : b ≠ g) : w'.heap[b]? = some (.cells cs t (0, 0)) := (ho.block _ (lt_of_cells h) hne).trans h
theorem cells_c {w : World} {b : Nat} {cs : Array Value} {t : TypeId} (h : w.heap[b]? = some (.cells cs t (0, 0))) (k : Nat) : w.cell? ⟨b, k, none⟩ = cs[k]? := cell_of_row w b k _ _ _ h
theorem cells_f {w : World} {b : Nat} {cs : Array Value} {t : TypeId} (h : w.heap[b]? = some (.cells cs t (0, 0))) (k : Nat) : w.frozen? ⟨b, k, none⟩ = false := by simp [World.frozen?, h]
theorem getAllN_row (b : Nat) (l : List Nat) (g n : Nat) (w : World) (h : Tr w b l (64 * g + 0)) (hl : l.length = 31) (hw : Wd l) (hg : g + 2 ≤ 31) :
    Calls Tryz.prog 100 #[.int .i64 (n : Nat), .int .i64 4, .func (.func 101) #[.pointer (some ⟨b, 0, none⟩)] #[]] w fun e w' => ∃ (A : Option Addr) (c : Nat) (L : List Nm), e = .returned (.slice A L.length c) ∧ Hid (whoL l g n = L) ∧ Mine w w' A L.length c L ∧ Tr w' b l (64 * (g + 2) + 0) ∧ OnlyB b w w' := by
  refine (getAllN_calls b l g n w h hl hw hg).mono ?_
  rintro e w' ⟨A, c, rfl, h1, h2, h3⟩
  rw [← whoL_length l g n] at h1 ⊢
  exact ⟨A, c, whoL l g n, rfl, Lib.hid rfl, h1, h2, h3⟩
theorem getAllX_row (b : Nat) (l : List Nat) (g n : Nat) (w : World) (h : Tr w b l (64 * g + 0)) (hl : l.length = 31) (hw : Wd l) (hg : g + 16 ≤ 31) :
    Calls Tryz.prog 102 #[.int .i64 (n : Nat), .int .i64 4, .func (.func 103) #[.pointer (some ⟨b, 0, none⟩)] #[]] w fun e w' => ∃ (A : Option Addr) (c : Nat) (L : List Xt), e = .returned (.slice A L.length c) ∧ Hid (xaL l g n = L) ∧ MineX w w' A L.length c L ∧ Tr w' b l (64 * (g + 16) + 0) ∧ OnlyB b w w' := by
  refine (getAllX_calls b l g n w h hl hw hg).mono ?_
  rintro e w' ⟨A, c, rfl, h1, h2, h3⟩
  rw [← xaL_length l g n] at h1 ⊢
  exact ⟨A, c, xaL l g n, rfl, Lib.hid rfl, h1, h2, h3⟩
theorem wpList_build_one {P : Program} {ops : Array Oper} {rest : List Oper} {o : Oper} {a : Act} {w : World} {Q : Exit → Act → World → Prop} (hg : o.guard = none) (t : TypeId) (x : Operand) (ho : o.op = .build t #[(0, x)])
    (d : Option Tmp) (hd : o.dst = d) (v : Value) (hx : a.eval x = v) (cells : Array Value) (hf : P.built t [(0, v)] = some cells)
    (h : wpList P ops Q rest (a.put d (.agg cells)) w) : wpList P ops Q (o :: rest) a w :=
  wpList_buildTo hg t #[(0, x)] ho d hd cells (by simpa [hx] using hf) h
/-- Its rows lie in blocks from B on. -/
structure AFrom (B : Nat) (p : ALie) : Prop where
  a : ∀ ad, p.p.A = some ad → B ≤ ad.block
  b : ∀ ad, p.p.B = some ad → B ≤ ad.block
  c : ∀ ad, p.q.A = some ad → B ≤ ad.block
  d : ∀ ad, p.q.B = some ad → B ≤ ad.block
  x : ∀ ad, p.X = some ad → B ≤ ad.block
theorem ALies.keep {w w' : World} {x : At} {p : ALie} {F : Nat → Prop} {B : Nat} (h : ALies w x p) (ho : Only F w w') (hp : AFrom B p) (hF : ∀ i, F i → i < B) : ALies w' x p :=
  ⟨⟨h.ac.us.only ho fun ad e _ hf => by have := hp.a ad e; have := hF _ hf; omega, h.ac.gs.only ho fun ad e _ hf => by have := hp.b ad e; have := hF _ hf; omega⟩,
    ⟨h.df.us.only ho fun ad e _ hf => by have := hp.c ad e; have := hF _ hf; omega, h.df.gs.only ho fun ad e _ hf => by have := hp.d ad e; have := hF _ hf; omega⟩,
    h.xs.only ho fun ad e _ hf => by have := hp.x ad e; have := hF _ hf; omega⟩
theorem tape_size : (Tryz.prog.info? 91).map (·.size) = some 32 := by kernel_rfl
set_option maxRecDepth 100000 in
set_option maxHeartbeats 4000000 in
theorem read_calls (l : List Nat) (w : World) (hl : l.length = 31) (hw : Wd l) :
    Calls Tryz.prog 76 #[.agg (wv l).toArray] w fun e w' => ∃ p, e = .returned ((rdP l).v p) ∧ ALies w' (rdP l) p ∧ AFrom w.heap.size p ∧ Below w.heap.size w w' := by
  have HW := Lib.hid hw
  have hlw : (wv l).length = 31 := by rw [wv_length]; exact hl
  obtain ⟨C, hC⟩ : ∃ C, C = (wv l).toArray.push (.int .i64 (0 : Nat)) := ⟨_, rfl⟩
  have HBT : Hid (Tryz.prog.built 91 [(0, .agg (wv l).toArray)] = some C) := Lib.hid (by rw [hC]; exact built_tape l hl)
  have hone : C.all (·.oneCell') = true := by
    rw [hC, ← Array.all_toList, List.all_eq_true]
    intro u hu
    simp only [Array.toList_push, List.mem_append, List.mem_singleton] at hu
    rcases hu with hu | rfl
    · exact wv_one l u hu
    · rfl
  have hsz : (Tryz.prog.info? 68).map (·.size) = some (wv l).length := by rw [hlw]; exact words_size
  have hCs : C.size = 32 := by rw [hC, Array.size_push, List.size_toArray]; omega
  have hsz2 : (Tryz.prog.info? 91).map (·.size) = some C.size := by rw [hCs]; exact tape_size
  have hold : (z32 : Array Value).size = C.size := by rw [hCs]; rfl
  obtain ⟨V, hV⟩ : ∃ V, V = ((w.alloc (.cells (wv l).toArray 68)).alloc (.cells zA 28)).alloc (.cells zA 28) := ⟨_, rfl⟩
  have b1 : Below w.heap.size w (w.alloc (.cells (wv l).toArray 68)) := (Below.refl _ _).alloc (Nat.le_refl _) _
  have BE0 : Below w.heap.size w V := by rw [hV]; exact (b1.alloc (by simp) _).alloc (by simp; omega) _
  have hVs : V.heap.size = w.heap.size + 1 + 1 + 1 := by rw [hV]; simp
  have hA0 : V.heap[w.heap.size]? = some (.cells (wv l).toArray 68 (0, 0)) := by
    rw [hV]
    exact cells_on (cells_on (heap_alloc_new w _) ((Below.refl _ _).alloc (Nat.le_refl _) _)) ((Below.refl _ _).alloc (Nat.le_refl _) _)
  have ZR0 : V.heap[w.heap.size + 1]? = some (.cells zA 28 (0, 0)) := by
    have h := heap_alloc_new (w.alloc (.cells (wv l).toArray 68)) (.cells zA 28)
    rw [World.size_alloc] at h
    rw [hV]
    exact cells_on h ((Below.refl _ _).alloc (Nat.le_refl _) _)
  have CB0 : V.heap[w.heap.size + 1 + 1]? = some (.cells zA 28 (0, 0)) := by
    have h := heap_alloc_new ((w.alloc (.cells (wv l).toArray 68)).alloc (.cells zA 28)) (.cells zA 28)
    rw [World.size_alloc, World.size_alloc] at h
    rw [hV]
    exact h
  have hcs : ∀ j u, (wv l)[j]? = some u → V.cell? ⟨w.heap.size, 0 + j, none⟩ = some u := fun j u hu => by
    rw [Nat.zero_add, cells_c hA0 j]
    simpa using hu
  have HC := Lib.hid hcs
  obtain ⟨V2, hV2⟩ : ∃ V2, V2 = (V.alloc (.cells z32 91)).setRow V.heap.size C := ⟨_, rfl⟩
  have hz := heap_alloc_new V (.cells z32 91)
  have HZ := Lib.hid hz
  have bel : Below V.heap.size V V2 := by rw [hV2]; exact below_setRow ((Below.refl _ _).alloc (Nat.le_refl _) _) (Nat.le_refl _) _
  have tr0 : Tr V2 (w.heap.size + 1 + 1 + 1) l 0 := by
    rw [← hVs, hV2]
    have h := setRow_heap _ _ _ C _ _ hz
    unfold Tr
    rw [← hC]
    exact h
  have T := Lib.hid tr0
  have ZR := Lib.hid (cells_on ZR0 bel)
  have CB := Lib.hid (cells_on CB0 bel)
  have BE := Lib.hid (BE0.trans (bel.mono BE0.size))
  have HVS := Lib.hid hVs
  clear hC hCs b1 BE0 hA0 ZR0 CB0 hcs hz bel tr0 hw hVs
  go_enter Tryz.func76, Tryz.ntmps76
  go_upto_region 2 with (fail)
  rw [← hV]
  clear hV
  go_upto_region 3 with (first
    | (refine wpList_load_part rfl 68 (.tmp 1) rfl w.heap.size 0 rfl (wv l) _ HC.out Tryz.underlying68 rfl hsz (.agg (wv l).toArray) rfl ?_)
    | (refine wpList_build_one rfl 91 (.tmp 12) rfl (some 13) rfl (.agg (wv l).toArray) rfl C HBT.out ?_)
    | (refine wpList_store_rowTo rfl 91 (.tmp 4) (.tmp 13) rfl rfl V.heap.size C rfl rfl 91 _ HZ.out hsz2 hold hone ?_; rw [← hV2]))
  rw [HVS.out]
  clear hV2 HZ HC HBT hone hsz hsz2 hold
  go_wp2_with (fail)
  refine (tget_calls (w.heap.size + 1 + 1 + 1) l 0 0 3 3 V2 rfl T.out hl HW.out (by decide) (by decide) (by decide)).mono ?_
  rintro e w1 ⟨rfl, h1, h2⟩
  replace ZR := Lib.hid (cells_keep ZR.out h2 (by omega))
  replace CB := Lib.hid (cells_keep CB.out h2 (by omega))
  replace T := Lib.hid h1
  replace BE := Lib.hid (BE.out.trans (h2.below BE.out.size (fun i hi => by omega)))
  clear h1 h2
  have bq0 := fld_lt (l.getD 0 0) 0 3
  obtain ⟨q0, hq0⟩ : ∃ q0, fld (l.getD 0 0) 0 3 = q0 := ⟨_, rfl⟩
  rw [hq0] at bq0 ⊢
  have Qq0 := Lib.hid hq0
  clear hq0
  have bq0 : q0 < 8 := bq0
  have y : w1.cell? ⟨(w.heap.size + 1 + 1), 0, none⟩ = some (.int .u8 0) := cells_c CB.out 0
  have f := cells_f CB.out 0
  obtain ⟨U0, hU0⟩ : ∃ U0, U0 = w1.setCell ⟨(w.heap.size + 1 + 1), 0, none⟩ (.int .u8 (q0 : Nat)) := ⟨_, rfl⟩
  have nZR := Lib.hid (cells_set ZR.out (p := ⟨(w.heap.size + 1 + 1), 0, none⟩) (.int .u8 (q0 : Nat)) (by show _ ≠ (w.heap.size + 1 + 1); omega))
  rw [← hU0] at nZR
  have nCB : Hid (U0.heap[(w.heap.size + 1 + 1)]? = some (.cells #[.int .u8 (q0 : Nat), .int .u16 0, .int .u16 0, .int .u8 0, .int .u8 0, .int .u8 0, .slice none 0 0, .slice none 0 0, .bool false, .int .u8 0, .bool false, .int .u8 0, .int .u8 0, .int .u8 0, .slice none 0 0, .slice none 0 0, .bool false, .int .u8 0, .slice none 0 0] 28 (0, 0))) := Lib.hid (by rw [hU0]; exact set_cell CB.out 0 (.int .u8 (q0 : Nat)))
  have nT := Lib.hid (T.out.setCell (p := ⟨(w.heap.size + 1 + 1), 0, none⟩) (.int .u8 (q0 : Nat)) (by show _ ≠ (w.heap.size + 1 + 1); omega))
  rw [← hU0] at nT
  have nBE : Hid (Below w.heap.size w U0) := Lib.hid (by rw [hU0]; exact BE.out.setCell (p := ⟨(w.heap.size + 1 + 1), 0, none⟩) (by show _ ≤ (w.heap.size + 1 + 1); omega) (.int .u8 (q0 : Nat)))
  clear ZR; have ZR := nZR; clear nZR
  clear CB; have CB := nCB; clear nCB
  clear T; have T := nT; clear nT
  clear BE; have BE := nBE; clear nBE
  go_upto_region 4 with (fail)
  rw [← hU0]
  clear hU0 y f
  go_wp2_with (fail)
  refine (getFlag_calls (w.heap.size + 1 + 1 + 1) l 0 3 U0 T.out hl HW.out (by decide) (by decide)).mono ?_
  rintro e w2 ⟨rfl, h1, h2⟩
  replace ZR := Lib.hid (cells_keep ZR.out h2 (by omega))
  replace CB := Lib.hid (cells_keep CB.out h2 (by omega))
  replace T := Lib.hid h1
  replace BE := Lib.hid (BE.out.trans (h2.below BE.out.size (fun i hi => by omega)))
  clear h1 h2
  obtain ⟨q1, hq1⟩ : ∃ q1, decide (fld (l.getD 0 0) 3 1 = 1) = q1 := ⟨_, rfl⟩
  rw [hq1]
  have Qq1 := Lib.hid hq1
  clear hq1
  have y : w2.cell? ⟨(w.heap.size + 1 + 1), 10, none⟩ = some (.bool false) := cells_c CB.out 10
  have f := cells_f CB.out 10
  obtain ⟨U1, hU1⟩ : ∃ U1, U1 = w2.setCell ⟨(w.heap.size + 1 + 1), 10, none⟩ (.bool q1) := ⟨_, rfl⟩
  have nZR := Lib.hid (cells_set ZR.out (p := ⟨(w.heap.size + 1 + 1), 10, none⟩) (.bool q1) (by show _ ≠ (w.heap.size + 1 + 1); omega))
  rw [← hU1] at nZR
  have nCB : Hid (U1.heap[(w.heap.size + 1 + 1)]? = some (.cells #[.int .u8 (q0 : Nat), .int .u16 0, .int .u16 0, .int .u8 0, .int .u8 0, .int .u8 0, .slice none 0 0, .slice none 0 0, .bool false, .int .u8 0, .bool q1, .int .u8 0, .int .u8 0, .int .u8 0, .slice none 0 0, .slice none 0 0, .bool false, .int .u8 0, .slice none 0 0] 28 (0, 0))) := Lib.hid (by rw [hU1]; exact set_cell CB.out 10 (.bool q1))
  have nT := Lib.hid (T.out.setCell (p := ⟨(w.heap.size + 1 + 1), 10, none⟩) (.bool q1) (by show _ ≠ (w.heap.size + 1 + 1); omega))
  rw [← hU1] at nT
  have nBE : Hid (Below w.heap.size w U1) := Lib.hid (by rw [hU1]; exact BE.out.setCell (p := ⟨(w.heap.size + 1 + 1), 10, none⟩) (by show _ ≤ (w.heap.size + 1 + 1); omega) (.bool q1))
  clear ZR; have ZR := nZR; clear nZR
  clear CB; have CB := nCB; clear nCB
  clear T; have T := nT; clear nT
  clear BE; have BE := nBE; clear nBE
  go_upto_region 5 with (fail)
  rw [← hU1]
  clear hU1 y f
  go_wp2_with (fail)
  refine (tget_calls (w.heap.size + 1 + 1 + 1) l 0 4 4 4 U1 rfl T.out hl HW.out (by decide) (by decide) (by decide)).mono ?_
  rintro e w3 ⟨rfl, h1, h2⟩
  replace ZR := Lib.hid (cells_keep ZR.out h2 (by omega))
  replace CB := Lib.hid (cells_keep CB.out h2 (by omega))
  replace T := Lib.hid h1
  replace BE := Lib.hid (BE.out.trans (h2.below BE.out.size (fun i hi => by omega)))
  clear h1 h2
  have bq2 := fld4 (l.getD 0 0) 4
  obtain ⟨q2, hq2⟩ : ∃ q2, fld (l.getD 0 0) 4 4 = q2 := ⟨_, rfl⟩
  rw [hq2] at bq2 ⊢
  have Qq2 := Lib.hid hq2
  clear hq2
  go_wp2_with (fail)
  refine (to_tr (w.heap.size + 1 + 1 + 1) l 8 64 64 64 w3 rfl T.out hl (by decide) (by decide) (by decide)).mono ?_
  rintro e w4 ⟨rfl, h1, h2⟩
  replace ZR := Lib.hid (cells_keep ZR.out h2 (by omega))
  replace CB := Lib.hid (cells_keep CB.out h2 (by omega))
  replace T := Lib.hid h1
  replace BE := Lib.hid (BE.out.trans (h2.below BE.out.size (fun i hi => by omega)))
  clear h1 h2
  go_wp2_with (fail)
  refine (tget_calls (w.heap.size + 1 + 1 + 1) l 1 0 16 16 w4 rfl T.out hl HW.out (by decide) (by decide) (by decide)).mono ?_
  rintro e w5 ⟨rfl, h1, h2⟩
  replace ZR := Lib.hid (cells_keep ZR.out h2 (by omega))
  replace CB := Lib.hid (cells_keep CB.out h2 (by omega))
  replace T := Lib.hid h1
  replace BE := Lib.hid (BE.out.trans (h2.below BE.out.size (fun i hi => by omega)))
  clear h1 h2
  have bq3 := fld16 (l.getD 1 0) 0
  obtain ⟨q3, hq3⟩ : ∃ q3, fld (l.getD 1 0) 0 16 = q3 := ⟨_, rfl⟩
  rw [hq3] at bq3 ⊢
  have Qq3 := Lib.hid hq3
  clear hq3
  have y : w5.cell? ⟨(w.heap.size + 1 + 1), 1, none⟩ = some (.int .u16 0) := cells_c CB.out 1
  have f := cells_f CB.out 1
  obtain ⟨U2, hU2⟩ : ∃ U2, U2 = w5.setCell ⟨(w.heap.size + 1 + 1), 1, none⟩ (.int .u16 (q3 : Nat)) := ⟨_, rfl⟩
  have nZR := Lib.hid (cells_set ZR.out (p := ⟨(w.heap.size + 1 + 1), 1, none⟩) (.int .u16 (q3 : Nat)) (by show _ ≠ (w.heap.size + 1 + 1); omega))
  rw [← hU2] at nZR
  have nCB : Hid (U2.heap[(w.heap.size + 1 + 1)]? = some (.cells #[.int .u8 (q0 : Nat), .int .u16 (q3 : Nat), .int .u16 0, .int .u8 0, .int .u8 0, .int .u8 0, .slice none 0 0, .slice none 0 0, .bool false, .int .u8 0, .bool q1, .int .u8 0, .int .u8 0, .int .u8 0, .slice none 0 0, .slice none 0 0, .bool false, .int .u8 0, .slice none 0 0] 28 (0, 0))) := Lib.hid (by rw [hU2]; exact set_cell CB.out 1 (.int .u16 (q3 : Nat)))
  have nT := Lib.hid (T.out.setCell (p := ⟨(w.heap.size + 1 + 1), 1, none⟩) (.int .u16 (q3 : Nat)) (by show _ ≠ (w.heap.size + 1 + 1); omega))
  rw [← hU2] at nT
  have nBE : Hid (Below w.heap.size w U2) := Lib.hid (by rw [hU2]; exact BE.out.setCell (p := ⟨(w.heap.size + 1 + 1), 1, none⟩) (by show _ ≤ (w.heap.size + 1 + 1); omega) (.int .u16 (q3 : Nat)))
  clear ZR; have ZR := nZR; clear nZR
  clear CB; have CB := nCB; clear nCB
  clear T; have T := nT; clear nT
  clear BE; have BE := nBE; clear nBE
  go_upto_region 8 with (fail)
  rw [← hU2]
  clear hU2 y f
  go_wp2_with (fail)
  refine (tget_calls (w.heap.size + 1 + 1 + 1) l 1 16 16 16 U2 rfl T.out hl HW.out (by decide) (by decide) (by decide)).mono ?_
  rintro e w6 ⟨rfl, h1, h2⟩
  replace ZR := Lib.hid (cells_keep ZR.out h2 (by omega))
  replace CB := Lib.hid (cells_keep CB.out h2 (by omega))
  replace T := Lib.hid h1
  replace BE := Lib.hid (BE.out.trans (h2.below BE.out.size (fun i hi => by omega)))
  clear h1 h2
  have bq4 := fld16 (l.getD 1 0) 16
  obtain ⟨q4, hq4⟩ : ∃ q4, fld (l.getD 1 0) 16 16 = q4 := ⟨_, rfl⟩
  rw [hq4] at bq4 ⊢
  have Qq4 := Lib.hid hq4
  clear hq4
  have y : w6.cell? ⟨(w.heap.size + 1 + 1), 2, none⟩ = some (.int .u16 0) := cells_c CB.out 2
  have f := cells_f CB.out 2
  obtain ⟨U3, hU3⟩ : ∃ U3, U3 = w6.setCell ⟨(w.heap.size + 1 + 1), 2, none⟩ (.int .u16 (q4 : Nat)) := ⟨_, rfl⟩
  have nZR := Lib.hid (cells_set ZR.out (p := ⟨(w.heap.size + 1 + 1), 2, none⟩) (.int .u16 (q4 : Nat)) (by show _ ≠ (w.heap.size + 1 + 1); omega))
  rw [← hU3] at nZR
  have nCB : Hid (U3.heap[(w.heap.size + 1 + 1)]? = some (.cells #[.int .u8 (q0 : Nat), .int .u16 (q3 : Nat), .int .u16 (q4 : Nat), .int .u8 0, .int .u8 0, .int .u8 0, .slice none 0 0, .slice none 0 0, .bool false, .int .u8 0, .bool q1, .int .u8 0, .int .u8 0, .int .u8 0, .slice none 0 0, .slice none 0 0, .bool false, .int .u8 0, .slice none 0 0] 28 (0, 0))) := Lib.hid (by rw [hU3]; exact set_cell CB.out 2 (.int .u16 (q4 : Nat)))
  have nT := Lib.hid (T.out.setCell (p := ⟨(w.heap.size + 1 + 1), 2, none⟩) (.int .u16 (q4 : Nat)) (by show _ ≠ (w.heap.size + 1 + 1); omega))
  rw [← hU3] at nT
  have nBE : Hid (Below w.heap.size w U3) := Lib.hid (by rw [hU3]; exact BE.out.setCell (p := ⟨(w.heap.size + 1 + 1), 2, none⟩) (by show _ ≤ (w.heap.size + 1 + 1); omega) (.int .u16 (q4 : Nat)))
  clear ZR; have ZR := nZR; clear nZR
  clear CB; have CB := nCB; clear nCB
  clear T; have T := nT; clear nT
  clear BE; have BE := nBE; clear nBE
  go_upto_region 9 with (fail)
  rw [← hU3]
  clear hU3 y f
  go_wp2_with (fail)
  refine (to_tr (w.heap.size + 1 + 1 + 1) l 96 64 128 64 U3 rfl T.out hl (by decide) (by decide) (by decide)).mono ?_
  rintro e w7 ⟨rfl, h1, h2⟩
  replace ZR := Lib.hid (cells_keep ZR.out h2 (by omega))
  replace CB := Lib.hid (cells_keep CB.out h2 (by omega))
  replace T := Lib.hid h1
  replace BE := Lib.hid (BE.out.trans (h2.below BE.out.size (fun i hi => by omega)))
  clear h1 h2
  go_wp2_with (fail)
  refine (getHead_calls (w.heap.size + 1 + 1 + 1) l 2 w7 T.out hl HW.out (by decide)).mono ?_
  rintro e w8 ⟨rfl, h1, h2⟩
  replace ZR := Lib.hid (cells_keep ZR.out h2 (by omega))
  replace CB := Lib.hid (cells_keep CB.out h2 (by omega))
  replace T := Lib.hid h1
  replace BE := Lib.hid (BE.out.trans (h2.below BE.out.size (fun i hi => by omega)))
  clear h1 h2
  obtain ⟨a0, ha0⟩ : ∃ a0, fld (l.getD 2 0) 0 4 = a0 := ⟨_, rfl⟩
  obtain ⟨a1, ha1⟩ : ∃ a1, fld (l.getD 2 0) 4 4 = a1 := ⟨_, rfl⟩
  obtain ⟨a2, ha2⟩ : ∃ a2, fld (l.getD 2 0) 8 4 = a2 := ⟨_, rfl⟩
  obtain ⟨a3, ha3⟩ : ∃ a3, fld (l.getD 2 0) 12 4 = a3 := ⟨_, rfl⟩
  obtain ⟨a4, ha4⟩ : ∃ a4, decide (fld (l.getD 2 0) 16 1 = 1) = a4 := ⟨_, rfl⟩
  obtain ⟨a5, ha5⟩ : ∃ a5, fld (l.getD 2 0) 20 4 = a5 := ⟨_, rfl⟩
  obtain ⟨a6, ha6⟩ : ∃ a6, fld (l.getD 2 0) 24 4 = a6 := ⟨_, rfl⟩
  unfold hdR
  simp only [ha0, ha1, ha2, ha3, ha4, ha5, ha6]
  have Qa0 := Lib.hid ha0
  have Qa1 := Lib.hid ha1
  have Qa2 := Lib.hid ha2
  have Qa3 := Lib.hid ha3
  have Qa4 := Lib.hid ha4
  have Qa5 := Lib.hid ha5
  have Qa6 := Lib.hid ha6
  have ba5 := fld4 (l.getD 2 0) 20
  rw [ha5] at ba5
  have ba6 := fld4 (l.getD 2 0) 24
  rw [ha6] at ba6
  clear ha0 ha1 ha2 ha3 ha4 ha5 ha6
  go_upto_region 11 with (fail)
  obtain ⟨gBA, hgBA⟩ : ∃ g, g = w8.heap.size := ⟨_, rfl⟩
  obtain ⟨U4, hU4⟩ : ∃ U4, U4 = w8.alloc (Obj.cells #[.int .u8 (a0 : Nat), .int .u8 (a1 : Nat), .int .u8 (a2 : Nat), .slice none 0 0, .slice none 0 0, .bool a4, .int .u8 (a3 : Nat)] 25) := ⟨_, rfl⟩
  have hal : Below w8.heap.size w8 U4 := by rw [hU4]; exact (Below.refl _ _).alloc (Nat.le_refl _) _
  have hltBA : w.heap.size + 1 + 1 + 1 < gBA := by rw [hgBA]; exact T.out.lt
  replace ZR := Lib.hid (cells_on ZR.out hal)
  replace CB := Lib.hid (cells_on CB.out hal)
  replace T := Lib.hid (T.out.below hal)
  replace BE := Lib.hid (BE.out.trans (hal.mono BE.out.size))
  have BA : Hid (U4.heap[gBA]? = some (.cells #[.int .u8 (a0 : Nat), .int .u8 (a1 : Nat), .int .u8 (a2 : Nat), .slice none 0 0, .slice none 0 0, .bool a4, .int .u8 (a3 : Nat)] 25 (0, 0))) := Lib.hid (by rw [hU4, hgBA]; exact heap_alloc_new _ _)
  rw [← hgBA, ← hU4]
  have hszBA : U4.heap.size = gBA + 1 := by rw [hU4, hgBA]; simp
  clear hal hU4 hgBA
  go_wp2_with (fail)
  refine (getHead_calls (w.heap.size + 1 + 1 + 1) l 3 U4 T.out hl HW.out (by decide)).mono ?_
  rintro e w9 ⟨rfl, h1, h2⟩
  replace ZR := Lib.hid (cells_keep ZR.out h2 (by omega))
  replace CB := Lib.hid (cells_keep CB.out h2 (by omega))
  replace BA := Lib.hid (cells_keep BA.out h2 (by omega))
  replace T := Lib.hid h1
  replace BE := Lib.hid (BE.out.trans (h2.below BE.out.size (fun i hi => by omega)))
  clear h1 h2
  obtain ⟨d0, hd0⟩ : ∃ d0, fld (l.getD 3 0) 0 4 = d0 := ⟨_, rfl⟩
  obtain ⟨d1, hd1⟩ : ∃ d1, fld (l.getD 3 0) 4 4 = d1 := ⟨_, rfl⟩
  obtain ⟨d2, hd2⟩ : ∃ d2, fld (l.getD 3 0) 8 4 = d2 := ⟨_, rfl⟩
  obtain ⟨d3, hd3⟩ : ∃ d3, fld (l.getD 3 0) 12 4 = d3 := ⟨_, rfl⟩
  obtain ⟨d4, hd4⟩ : ∃ d4, decide (fld (l.getD 3 0) 16 1 = 1) = d4 := ⟨_, rfl⟩
  obtain ⟨d5, hd5⟩ : ∃ d5, fld (l.getD 3 0) 20 4 = d5 := ⟨_, rfl⟩
  obtain ⟨d6, hd6⟩ : ∃ d6, fld (l.getD 3 0) 24 4 = d6 := ⟨_, rfl⟩
  unfold hdR
  simp only [hd0, hd1, hd2, hd3, hd4, hd5, hd6]
  have Qd0 := Lib.hid hd0
  have Qd1 := Lib.hid hd1
  have Qd2 := Lib.hid hd2
  have Qd3 := Lib.hid hd3
  have Qd4 := Lib.hid hd4
  have Qd5 := Lib.hid hd5
  have Qd6 := Lib.hid hd6
  have bd5 := fld4 (l.getD 3 0) 20
  rw [hd5] at bd5
  have bd6 := fld4 (l.getD 3 0) 24
  rw [hd6] at bd6
  clear hd0 hd1 hd2 hd3 hd4 hd5 hd6
  go_upto_region 12 with (fail)
  obtain ⟨gBD, hgBD⟩ : ∃ g, g = w9.heap.size := ⟨_, rfl⟩
  obtain ⟨U5, hU5⟩ : ∃ U5, U5 = w9.alloc (Obj.cells #[.int .u8 (d0 : Nat), .int .u8 (d1 : Nat), .int .u8 (d2 : Nat), .slice none 0 0, .slice none 0 0, .bool d4, .int .u8 (d3 : Nat)] 25) := ⟨_, rfl⟩
  have hal : Below w9.heap.size w9 U5 := by rw [hU5]; exact (Below.refl _ _).alloc (Nat.le_refl _) _
  have hltBD : w.heap.size + 1 + 1 + 1 < gBD := by rw [hgBD]; exact T.out.lt
  have hneBABD : gBA < gBD := by rw [hgBD]; exact lt_of_cells BA.out
  replace ZR := Lib.hid (cells_on ZR.out hal)
  replace CB := Lib.hid (cells_on CB.out hal)
  replace BA := Lib.hid (cells_on BA.out hal)
  replace T := Lib.hid (T.out.below hal)
  replace BE := Lib.hid (BE.out.trans (hal.mono BE.out.size))
  have BD : Hid (U5.heap[gBD]? = some (.cells #[.int .u8 (d0 : Nat), .int .u8 (d1 : Nat), .int .u8 (d2 : Nat), .slice none 0 0, .slice none 0 0, .bool d4, .int .u8 (d3 : Nat)] 25 (0, 0))) := Lib.hid (by rw [hU5, hgBD]; exact heap_alloc_new _ _)
  rw [← hgBD, ← hU5]
  have hszBD : U5.heap.size = gBD + 1 := by rw [hU5, hgBD]; simp
  clear hal hU5 hgBD
  have hgeR1 : gBD < U5.heap.size := lt_of_cells BD.out
  go_wp2_with (fail)
  refine (getAllN_row (w.heap.size + 1 + 1 + 1) l 4 a5 U5 T.out hl HW.out (by decide)).mono ?_
  rintro e w10 ⟨AR1, cR1, LR1, rfl, ER1, hM, h1, h2⟩
  replace ZR := Lib.hid (cells_keep ZR.out h2 (by omega))
  replace CB := Lib.hid (cells_keep CB.out h2 (by omega))
  replace BA := Lib.hid (cells_keep BA.out h2 (by omega))
  replace BD := Lib.hid (cells_keep BD.out h2 (by omega))
  replace T := Lib.hid h1
  replace BE := Lib.hid (BE.out.trans (h2.below BE.out.size (fun i hi => by omega)))
  clear h1 h2
  have R1 := Lib.hid (hM.from (v := U5) (Nat.le_refl _))
  clear hM
  have y : w10.cell? ⟨gBA, 3, none⟩ = some (.slice none 0 0) := cells_c BA.out 3
  have f := cells_f BA.out 3
  obtain ⟨U6, hU6⟩ : ∃ U6, U6 = w10.setCell ⟨gBA, 3, none⟩ (.slice AR1 LR1.length cR1) := ⟨_, rfl⟩
  have nZR := Lib.hid (cells_set ZR.out (p := ⟨gBA, 3, none⟩) (.slice AR1 LR1.length cR1) (by show _ ≠ gBA; omega))
  rw [← hU6] at nZR
  have nCB := Lib.hid (cells_set CB.out (p := ⟨gBA, 3, none⟩) (.slice AR1 LR1.length cR1) (by show _ ≠ gBA; omega))
  rw [← hU6] at nCB
  have nBA : Hid (U6.heap[gBA]? = some (.cells #[.int .u8 (a0 : Nat), .int .u8 (a1 : Nat), .int .u8 (a2 : Nat), .slice AR1 LR1.length cR1, .slice none 0 0, .bool a4, .int .u8 (a3 : Nat)] 25 (0, 0))) := Lib.hid (by rw [hU6]; exact set_cell BA.out 3 (.slice AR1 LR1.length cR1))
  have nBD := Lib.hid (cells_set BD.out (p := ⟨gBA, 3, none⟩) (.slice AR1 LR1.length cR1) (by show _ ≠ gBA; omega))
  rw [← hU6] at nBD
  have nR1 := Lib.hid (R1.out.other (a := ⟨gBA, 3, none⟩) (.slice AR1 LR1.length cR1) (fun ad e => by have := R1.out.2 ad e; show _ ≠ gBA; omega))
  rw [← hU6] at nR1
  have nT := Lib.hid (T.out.setCell (p := ⟨gBA, 3, none⟩) (.slice AR1 LR1.length cR1) (by show _ ≠ gBA; omega))
  rw [← hU6] at nT
  have nBE : Hid (Below w.heap.size w U6) := Lib.hid (by rw [hU6]; exact BE.out.setCell (p := ⟨gBA, 3, none⟩) (by show _ ≤ gBA; omega) (.slice AR1 LR1.length cR1))
  clear ZR; have ZR := nZR; clear nZR
  clear CB; have CB := nCB; clear nCB
  clear BA; have BA := nBA; clear nBA
  clear BD; have BD := nBD; clear nBD
  clear R1; have R1 := nR1; clear nR1
  clear T; have T := nT; clear nT
  clear BE; have BE := nBE; clear nBE
  go_upto_region 13 with (fail)
  rw [← hU6]
  clear hU6 y f
  have hgeR2 : gBD < U6.heap.size := lt_of_cells BD.out
  go_wp2_with (fail)
  refine (getAllN_row (w.heap.size + 1 + 1 + 1) l 6 a6 U6 T.out hl HW.out (by decide)).mono ?_
  rintro e w11 ⟨AR2, cR2, LR2, rfl, ER2, hM, h1, h2⟩
  replace ZR := Lib.hid (cells_keep ZR.out h2 (by omega))
  replace CB := Lib.hid (cells_keep CB.out h2 (by omega))
  replace BA := Lib.hid (cells_keep BA.out h2 (by omega))
  replace BD := Lib.hid (cells_keep BD.out h2 (by omega))
  replace R1 := Lib.hid (R1.out.keep h2 (fun ad e hF => by have := R1.out.2 ad e; omega))
  replace T := Lib.hid h1
  replace BE := Lib.hid (BE.out.trans (h2.below BE.out.size (fun i hi => by omega)))
  clear h1 h2
  have R2 := Lib.hid (hM.from (v := U6) (Nat.le_refl _))
  clear hM
  have y : w11.cell? ⟨gBA, 4, none⟩ = some (.slice none 0 0) := cells_c BA.out 4
  have f := cells_f BA.out 4
  obtain ⟨U7, hU7⟩ : ∃ U7, U7 = w11.setCell ⟨gBA, 4, none⟩ (.slice AR2 LR2.length cR2) := ⟨_, rfl⟩
  have nZR := Lib.hid (cells_set ZR.out (p := ⟨gBA, 4, none⟩) (.slice AR2 LR2.length cR2) (by show _ ≠ gBA; omega))
  rw [← hU7] at nZR
  have nCB := Lib.hid (cells_set CB.out (p := ⟨gBA, 4, none⟩) (.slice AR2 LR2.length cR2) (by show _ ≠ gBA; omega))
  rw [← hU7] at nCB
  have nBA : Hid (U7.heap[gBA]? = some (.cells #[.int .u8 (a0 : Nat), .int .u8 (a1 : Nat), .int .u8 (a2 : Nat), .slice AR1 LR1.length cR1, .slice AR2 LR2.length cR2, .bool a4, .int .u8 (a3 : Nat)] 25 (0, 0))) := Lib.hid (by rw [hU7]; exact set_cell BA.out 4 (.slice AR2 LR2.length cR2))
  have nBD := Lib.hid (cells_set BD.out (p := ⟨gBA, 4, none⟩) (.slice AR2 LR2.length cR2) (by show _ ≠ gBA; omega))
  rw [← hU7] at nBD
  have nR1 := Lib.hid (R1.out.other (a := ⟨gBA, 4, none⟩) (.slice AR2 LR2.length cR2) (fun ad e => by have := R1.out.2 ad e; show _ ≠ gBA; omega))
  rw [← hU7] at nR1
  have nR2 := Lib.hid (R2.out.other (a := ⟨gBA, 4, none⟩) (.slice AR2 LR2.length cR2) (fun ad e => by have := R2.out.2 ad e; show _ ≠ gBA; omega))
  rw [← hU7] at nR2
  have nT := Lib.hid (T.out.setCell (p := ⟨gBA, 4, none⟩) (.slice AR2 LR2.length cR2) (by show _ ≠ gBA; omega))
  rw [← hU7] at nT
  have nBE : Hid (Below w.heap.size w U7) := Lib.hid (by rw [hU7]; exact BE.out.setCell (p := ⟨gBA, 4, none⟩) (by show _ ≤ gBA; omega) (.slice AR2 LR2.length cR2))
  clear ZR; have ZR := nZR; clear nZR
  clear CB; have CB := nCB; clear nCB
  clear BA; have BA := nBA; clear nBA
  clear BD; have BD := nBD; clear nBD
  clear R1; have R1 := nR1; clear nR1
  clear R2; have R2 := nR2; clear nR2
  clear T; have T := nT; clear nT
  clear BE; have BE := nBE; clear nBE
  go_upto_region 14 with (fail)
  rw [← hU7]
  clear hU7 y f
  have hgeR3 : gBD < U7.heap.size := lt_of_cells BD.out
  go_wp2_with (fail)
  refine (getAllN_row (w.heap.size + 1 + 1 + 1) l 8 d5 U7 T.out hl HW.out (by decide)).mono ?_
  rintro e w12 ⟨AR3, cR3, LR3, rfl, ER3, hM, h1, h2⟩
  replace ZR := Lib.hid (cells_keep ZR.out h2 (by omega))
  replace CB := Lib.hid (cells_keep CB.out h2 (by omega))
  replace BA := Lib.hid (cells_keep BA.out h2 (by omega))
  replace BD := Lib.hid (cells_keep BD.out h2 (by omega))
  replace R1 := Lib.hid (R1.out.keep h2 (fun ad e hF => by have := R1.out.2 ad e; omega))
  replace R2 := Lib.hid (R2.out.keep h2 (fun ad e hF => by have := R2.out.2 ad e; omega))
  replace T := Lib.hid h1
  replace BE := Lib.hid (BE.out.trans (h2.below BE.out.size (fun i hi => by omega)))
  clear h1 h2
  have R3 := Lib.hid (hM.from (v := U7) (Nat.le_refl _))
  clear hM
  have y : w12.cell? ⟨gBD, 3, none⟩ = some (.slice none 0 0) := cells_c BD.out 3
  have f := cells_f BD.out 3
  obtain ⟨U8, hU8⟩ : ∃ U8, U8 = w12.setCell ⟨gBD, 3, none⟩ (.slice AR3 LR3.length cR3) := ⟨_, rfl⟩
  have nZR := Lib.hid (cells_set ZR.out (p := ⟨gBD, 3, none⟩) (.slice AR3 LR3.length cR3) (by show _ ≠ gBD; omega))
  rw [← hU8] at nZR
  have nCB := Lib.hid (cells_set CB.out (p := ⟨gBD, 3, none⟩) (.slice AR3 LR3.length cR3) (by show _ ≠ gBD; omega))
  rw [← hU8] at nCB
  have nBA := Lib.hid (cells_set BA.out (p := ⟨gBD, 3, none⟩) (.slice AR3 LR3.length cR3) (by show _ ≠ gBD; omega))
  rw [← hU8] at nBA
  have nBD : Hid (U8.heap[gBD]? = some (.cells #[.int .u8 (d0 : Nat), .int .u8 (d1 : Nat), .int .u8 (d2 : Nat), .slice AR3 LR3.length cR3, .slice none 0 0, .bool d4, .int .u8 (d3 : Nat)] 25 (0, 0))) := Lib.hid (by rw [hU8]; exact set_cell BD.out 3 (.slice AR3 LR3.length cR3))
  have nR1 := Lib.hid (R1.out.other (a := ⟨gBD, 3, none⟩) (.slice AR3 LR3.length cR3) (fun ad e => by have := R1.out.2 ad e; show _ ≠ gBD; omega))
  rw [← hU8] at nR1
  have nR2 := Lib.hid (R2.out.other (a := ⟨gBD, 3, none⟩) (.slice AR3 LR3.length cR3) (fun ad e => by have := R2.out.2 ad e; show _ ≠ gBD; omega))
  rw [← hU8] at nR2
  have nR3 := Lib.hid (R3.out.other (a := ⟨gBD, 3, none⟩) (.slice AR3 LR3.length cR3) (fun ad e => by have := R3.out.2 ad e; show _ ≠ gBD; omega))
  rw [← hU8] at nR3
  have nT := Lib.hid (T.out.setCell (p := ⟨gBD, 3, none⟩) (.slice AR3 LR3.length cR3) (by show _ ≠ gBD; omega))
  rw [← hU8] at nT
  have nBE : Hid (Below w.heap.size w U8) := Lib.hid (by rw [hU8]; exact BE.out.setCell (p := ⟨gBD, 3, none⟩) (by show _ ≤ gBD; omega) (.slice AR3 LR3.length cR3))
  clear ZR; have ZR := nZR; clear nZR
  clear CB; have CB := nCB; clear nCB
  clear BA; have BA := nBA; clear nBA
  clear BD; have BD := nBD; clear nBD
  clear R1; have R1 := nR1; clear nR1
  clear R2; have R2 := nR2; clear nR2
  clear R3; have R3 := nR3; clear nR3
  clear T; have T := nT; clear nT
  clear BE; have BE := nBE; clear nBE
  go_upto_region 15 with (fail)
  rw [← hU8]
  clear hU8 y f
  have hgeR4 : gBD < U8.heap.size := lt_of_cells BD.out
  go_wp2_with (fail)
  refine (getAllN_row (w.heap.size + 1 + 1 + 1) l 10 d6 U8 T.out hl HW.out (by decide)).mono ?_
  rintro e w13 ⟨AR4, cR4, LR4, rfl, ER4, hM, h1, h2⟩
  replace ZR := Lib.hid (cells_keep ZR.out h2 (by omega))
  replace CB := Lib.hid (cells_keep CB.out h2 (by omega))
  replace BA := Lib.hid (cells_keep BA.out h2 (by omega))
  replace BD := Lib.hid (cells_keep BD.out h2 (by omega))
  replace R1 := Lib.hid (R1.out.keep h2 (fun ad e hF => by have := R1.out.2 ad e; omega))
  replace R2 := Lib.hid (R2.out.keep h2 (fun ad e hF => by have := R2.out.2 ad e; omega))
  replace R3 := Lib.hid (R3.out.keep h2 (fun ad e hF => by have := R3.out.2 ad e; omega))
  replace T := Lib.hid h1
  replace BE := Lib.hid (BE.out.trans (h2.below BE.out.size (fun i hi => by omega)))
  clear h1 h2
  have R4 := Lib.hid (hM.from (v := U8) (Nat.le_refl _))
  clear hM
  have y : w13.cell? ⟨gBD, 4, none⟩ = some (.slice none 0 0) := cells_c BD.out 4
  have f := cells_f BD.out 4
  obtain ⟨U9, hU9⟩ : ∃ U9, U9 = w13.setCell ⟨gBD, 4, none⟩ (.slice AR4 LR4.length cR4) := ⟨_, rfl⟩
  have nZR := Lib.hid (cells_set ZR.out (p := ⟨gBD, 4, none⟩) (.slice AR4 LR4.length cR4) (by show _ ≠ gBD; omega))
  rw [← hU9] at nZR
  have nCB := Lib.hid (cells_set CB.out (p := ⟨gBD, 4, none⟩) (.slice AR4 LR4.length cR4) (by show _ ≠ gBD; omega))
  rw [← hU9] at nCB
  have nBA := Lib.hid (cells_set BA.out (p := ⟨gBD, 4, none⟩) (.slice AR4 LR4.length cR4) (by show _ ≠ gBD; omega))
  rw [← hU9] at nBA
  have nBD : Hid (U9.heap[gBD]? = some (.cells #[.int .u8 (d0 : Nat), .int .u8 (d1 : Nat), .int .u8 (d2 : Nat), .slice AR3 LR3.length cR3, .slice AR4 LR4.length cR4, .bool d4, .int .u8 (d3 : Nat)] 25 (0, 0))) := Lib.hid (by rw [hU9]; exact set_cell BD.out 4 (.slice AR4 LR4.length cR4))
  have nR1 := Lib.hid (R1.out.other (a := ⟨gBD, 4, none⟩) (.slice AR4 LR4.length cR4) (fun ad e => by have := R1.out.2 ad e; show _ ≠ gBD; omega))
  rw [← hU9] at nR1
  have nR2 := Lib.hid (R2.out.other (a := ⟨gBD, 4, none⟩) (.slice AR4 LR4.length cR4) (fun ad e => by have := R2.out.2 ad e; show _ ≠ gBD; omega))
  rw [← hU9] at nR2
  have nR3 := Lib.hid (R3.out.other (a := ⟨gBD, 4, none⟩) (.slice AR4 LR4.length cR4) (fun ad e => by have := R3.out.2 ad e; show _ ≠ gBD; omega))
  rw [← hU9] at nR3
  have nR4 := Lib.hid (R4.out.other (a := ⟨gBD, 4, none⟩) (.slice AR4 LR4.length cR4) (fun ad e => by have := R4.out.2 ad e; show _ ≠ gBD; omega))
  rw [← hU9] at nR4
  have nT := Lib.hid (T.out.setCell (p := ⟨gBD, 4, none⟩) (.slice AR4 LR4.length cR4) (by show _ ≠ gBD; omega))
  rw [← hU9] at nT
  have nBE : Hid (Below w.heap.size w U9) := Lib.hid (by rw [hU9]; exact BE.out.setCell (p := ⟨gBD, 4, none⟩) (by show _ ≤ gBD; omega) (.slice AR4 LR4.length cR4))
  clear ZR; have ZR := nZR; clear nZR
  clear CB; have CB := nCB; clear nCB
  clear BA; have BA := nBA; clear nBA
  clear BD; have BD := nBD; clear nBD
  clear R1; have R1 := nR1; clear nR1
  clear R2; have R2 := nR2; clear nR2
  clear R3; have R3 := nR3; clear nR3
  clear R4; have R4 := nR4; clear nR4
  clear T; have T := nT; clear nT
  clear BE; have BE := nBE; clear nBE
  go_upto_region 16 with (fail)
  rw [← hU9]
  clear hU9 y f
  have ya0 : U9.cell? ⟨gBA, 0, none⟩ = some (.int .u8 (a0 : Nat)) := cells_c BA.out 0
  have yd0 : U9.cell? ⟨gBD, 0, none⟩ = some (.int .u8 (d0 : Nat)) := cells_c BD.out 0
  have ya1 : U9.cell? ⟨gBA, 1, none⟩ = some (.int .u8 (a1 : Nat)) := cells_c BA.out 1
  have yd1 : U9.cell? ⟨gBD, 1, none⟩ = some (.int .u8 (d1 : Nat)) := cells_c BD.out 1
  have ya2 : U9.cell? ⟨gBA, 2, none⟩ = some (.int .u8 (a2 : Nat)) := cells_c BA.out 2
  have yd2 : U9.cell? ⟨gBD, 2, none⟩ = some (.int .u8 (d2 : Nat)) := cells_c BD.out 2
  have ya3 : U9.cell? ⟨gBA, 3, none⟩ = some (.slice AR1 LR1.length cR1) := cells_c BA.out 3
  have yd3 : U9.cell? ⟨gBD, 3, none⟩ = some (.slice AR3 LR3.length cR3) := cells_c BD.out 3
  have ya4 : U9.cell? ⟨gBA, 4, none⟩ = some (.slice AR2 LR2.length cR2) := cells_c BA.out 4
  have yd4 : U9.cell? ⟨gBD, 4, none⟩ = some (.slice AR4 LR4.length cR4) := cells_c BD.out 4
  have ya5 : U9.cell? ⟨gBA, 5, none⟩ = some (.bool a4) := cells_c BA.out 5
  have yd5 : U9.cell? ⟨gBD, 5, none⟩ = some (.bool d4) := cells_c BD.out 5
  have ya6 : U9.cell? ⟨gBA, 6, none⟩ = some (.int .u8 (a3 : Nat)) := cells_c BA.out 6
  have yd6 : U9.cell? ⟨gBD, 6, none⟩ = some (.int .u8 (d3 : Nat)) := cells_c BD.out 6
  have f3 := cells_f CB.out 3
  have yc3 : U9.cell? ⟨(w.heap.size + 1 + 1), 3, none⟩ = some (.int .u8 0) := cells_c CB.out 3
  have f4 := cells_f CB.out 4
  have yc4 : U9.cell? ⟨(w.heap.size + 1 + 1), 4, none⟩ = some (.int .u8 0) := cells_c CB.out 4
  have f5 := cells_f CB.out 5
  have yc5 : U9.cell? ⟨(w.heap.size + 1 + 1), 5, none⟩ = some (.int .u8 0) := cells_c CB.out 5
  have f6 := cells_f CB.out 6
  have yc6 : U9.cell? ⟨(w.heap.size + 1 + 1), 6, none⟩ = some (.slice none 0 0) := cells_c CB.out 6
  have f7 := cells_f CB.out 7
  have yc7 : U9.cell? ⟨(w.heap.size + 1 + 1), 7, none⟩ = some (.slice none 0 0) := cells_c CB.out 7
  have f8 := cells_f CB.out 8
  have yc8 : U9.cell? ⟨(w.heap.size + 1 + 1), 8, none⟩ = some (.bool false) := cells_c CB.out 8
  have f9 := cells_f CB.out 9
  have yc9 : U9.cell? ⟨(w.heap.size + 1 + 1), 9, none⟩ = some (.int .u8 0) := cells_c CB.out 9
  have f11 := cells_f CB.out 11
  have yc11 : U9.cell? ⟨(w.heap.size + 1 + 1), 11, none⟩ = some (.int .u8 0) := cells_c CB.out 11
  have f12 := cells_f CB.out 12
  have yc12 : U9.cell? ⟨(w.heap.size + 1 + 1), 12, none⟩ = some (.int .u8 0) := cells_c CB.out 12
  have f13 := cells_f CB.out 13
  have yc13 : U9.cell? ⟨(w.heap.size + 1 + 1), 13, none⟩ = some (.int .u8 0) := cells_c CB.out 13
  have f14 := cells_f CB.out 14
  have yc14 : U9.cell? ⟨(w.heap.size + 1 + 1), 14, none⟩ = some (.slice none 0 0) := cells_c CB.out 14
  have f15 := cells_f CB.out 15
  have yc15 : U9.cell? ⟨(w.heap.size + 1 + 1), 15, none⟩ = some (.slice none 0 0) := cells_c CB.out 15
  have f16 := cells_f CB.out 16
  have yc16 : U9.cell? ⟨(w.heap.size + 1 + 1), 16, none⟩ = some (.bool false) := cells_c CB.out 16
  have f17 := cells_f CB.out 17
  have yc17 : U9.cell? ⟨(w.heap.size + 1 + 1), 17, none⟩ = some (.int .u8 0) := cells_c CB.out 17
  have k0 := CB.out
  have on0 : Only (fun j => j = (w.heap.size + 1 + 1)) U9 U9 := Only.refl _ _
  obtain ⟨X1, hX1⟩ : ∃ X1, X1 = U9.setCell ⟨(w.heap.size + 1 + 1), 3, none⟩ (.int .u8 (a0 : Nat)) := ⟨_, rfl⟩
  have k1 : X1.heap[(w.heap.size + 1 + 1)]? = some (.cells #[.int .u8 (q0 : Nat), .int .u16 (q3 : Nat), .int .u16 (q4 : Nat), .int .u8 (a0 : Nat), .int .u8 0, .int .u8 0, .slice none 0 0, .slice none 0 0, .bool false, .int .u8 0, .bool q1, .int .u8 0, .int .u8 0, .int .u8 0, .slice none 0 0, .slice none 0 0, .bool false, .int .u8 0, .slice none 0 0] 28 (0, 0)) := by rw [hX1]; exact set_cell k0 3 (.int .u8 (a0 : Nat))
  have on1 : Only (fun j => j = (w.heap.size + 1 + 1)) U9 X1 := by rw [hX1]; exact on0.setCell (p := ⟨(w.heap.size + 1 + 1), 3, none⟩) (.inl rfl) (.int .u8 (a0 : Nat))
  clear k0 on0
  obtain ⟨X2, hX2⟩ : ∃ X2, X2 = X1.setCell ⟨(w.heap.size + 1 + 1), 4, none⟩ (.int .u8 (a1 : Nat)) := ⟨_, rfl⟩
  have k2 : X2.heap[(w.heap.size + 1 + 1)]? = some (.cells #[.int .u8 (q0 : Nat), .int .u16 (q3 : Nat), .int .u16 (q4 : Nat), .int .u8 (a0 : Nat), .int .u8 (a1 : Nat), .int .u8 0, .slice none 0 0, .slice none 0 0, .bool false, .int .u8 0, .bool q1, .int .u8 0, .int .u8 0, .int .u8 0, .slice none 0 0, .slice none 0 0, .bool false, .int .u8 0, .slice none 0 0] 28 (0, 0)) := by rw [hX2]; exact set_cell k1 4 (.int .u8 (a1 : Nat))
  have on2 : Only (fun j => j = (w.heap.size + 1 + 1)) U9 X2 := by rw [hX2]; exact on1.setCell (p := ⟨(w.heap.size + 1 + 1), 4, none⟩) (.inl rfl) (.int .u8 (a1 : Nat))
  clear k1 on1
  obtain ⟨X3, hX3⟩ : ∃ X3, X3 = X2.setCell ⟨(w.heap.size + 1 + 1), 5, none⟩ (.int .u8 (a2 : Nat)) := ⟨_, rfl⟩
  have k3 : X3.heap[(w.heap.size + 1 + 1)]? = some (.cells #[.int .u8 (q0 : Nat), .int .u16 (q3 : Nat), .int .u16 (q4 : Nat), .int .u8 (a0 : Nat), .int .u8 (a1 : Nat), .int .u8 (a2 : Nat), .slice none 0 0, .slice none 0 0, .bool false, .int .u8 0, .bool q1, .int .u8 0, .int .u8 0, .int .u8 0, .slice none 0 0, .slice none 0 0, .bool false, .int .u8 0, .slice none 0 0] 28 (0, 0)) := by rw [hX3]; exact set_cell k2 5 (.int .u8 (a2 : Nat))
  have on3 : Only (fun j => j = (w.heap.size + 1 + 1)) U9 X3 := by rw [hX3]; exact on2.setCell (p := ⟨(w.heap.size + 1 + 1), 5, none⟩) (.inl rfl) (.int .u8 (a2 : Nat))
  clear k2 on2
  obtain ⟨X4, hX4⟩ : ∃ X4, X4 = X3.setCell ⟨(w.heap.size + 1 + 1), 6, none⟩ (.slice AR1 LR1.length cR1) := ⟨_, rfl⟩
  have k4 : X4.heap[(w.heap.size + 1 + 1)]? = some (.cells #[.int .u8 (q0 : Nat), .int .u16 (q3 : Nat), .int .u16 (q4 : Nat), .int .u8 (a0 : Nat), .int .u8 (a1 : Nat), .int .u8 (a2 : Nat), .slice AR1 LR1.length cR1, .slice none 0 0, .bool false, .int .u8 0, .bool q1, .int .u8 0, .int .u8 0, .int .u8 0, .slice none 0 0, .slice none 0 0, .bool false, .int .u8 0, .slice none 0 0] 28 (0, 0)) := by rw [hX4]; exact set_cell k3 6 (.slice AR1 LR1.length cR1)
  have on4 : Only (fun j => j = (w.heap.size + 1 + 1)) U9 X4 := by rw [hX4]; exact on3.setCell (p := ⟨(w.heap.size + 1 + 1), 6, none⟩) (.inl rfl) (.slice AR1 LR1.length cR1)
  clear k3 on3
  obtain ⟨X5, hX5⟩ : ∃ X5, X5 = X4.setCell ⟨(w.heap.size + 1 + 1), 7, none⟩ (.slice AR2 LR2.length cR2) := ⟨_, rfl⟩
  have k5 : X5.heap[(w.heap.size + 1 + 1)]? = some (.cells #[.int .u8 (q0 : Nat), .int .u16 (q3 : Nat), .int .u16 (q4 : Nat), .int .u8 (a0 : Nat), .int .u8 (a1 : Nat), .int .u8 (a2 : Nat), .slice AR1 LR1.length cR1, .slice AR2 LR2.length cR2, .bool false, .int .u8 0, .bool q1, .int .u8 0, .int .u8 0, .int .u8 0, .slice none 0 0, .slice none 0 0, .bool false, .int .u8 0, .slice none 0 0] 28 (0, 0)) := by rw [hX5]; exact set_cell k4 7 (.slice AR2 LR2.length cR2)
  have on5 : Only (fun j => j = (w.heap.size + 1 + 1)) U9 X5 := by rw [hX5]; exact on4.setCell (p := ⟨(w.heap.size + 1 + 1), 7, none⟩) (.inl rfl) (.slice AR2 LR2.length cR2)
  clear k4 on4
  obtain ⟨X6, hX6⟩ : ∃ X6, X6 = X5.setCell ⟨(w.heap.size + 1 + 1), 8, none⟩ (.bool a4) := ⟨_, rfl⟩
  have k6 : X6.heap[(w.heap.size + 1 + 1)]? = some (.cells #[.int .u8 (q0 : Nat), .int .u16 (q3 : Nat), .int .u16 (q4 : Nat), .int .u8 (a0 : Nat), .int .u8 (a1 : Nat), .int .u8 (a2 : Nat), .slice AR1 LR1.length cR1, .slice AR2 LR2.length cR2, .bool a4, .int .u8 0, .bool q1, .int .u8 0, .int .u8 0, .int .u8 0, .slice none 0 0, .slice none 0 0, .bool false, .int .u8 0, .slice none 0 0] 28 (0, 0)) := by rw [hX6]; exact set_cell k5 8 (.bool a4)
  have on6 : Only (fun j => j = (w.heap.size + 1 + 1)) U9 X6 := by rw [hX6]; exact on5.setCell (p := ⟨(w.heap.size + 1 + 1), 8, none⟩) (.inl rfl) (.bool a4)
  clear k5 on5
  obtain ⟨X7, hX7⟩ : ∃ X7, X7 = X6.setCell ⟨(w.heap.size + 1 + 1), 9, none⟩ (.int .u8 (a3 : Nat)) := ⟨_, rfl⟩
  have k7 : X7.heap[(w.heap.size + 1 + 1)]? = some (.cells #[.int .u8 (q0 : Nat), .int .u16 (q3 : Nat), .int .u16 (q4 : Nat), .int .u8 (a0 : Nat), .int .u8 (a1 : Nat), .int .u8 (a2 : Nat), .slice AR1 LR1.length cR1, .slice AR2 LR2.length cR2, .bool a4, .int .u8 (a3 : Nat), .bool q1, .int .u8 0, .int .u8 0, .int .u8 0, .slice none 0 0, .slice none 0 0, .bool false, .int .u8 0, .slice none 0 0] 28 (0, 0)) := by rw [hX7]; exact set_cell k6 9 (.int .u8 (a3 : Nat))
  have on7 : Only (fun j => j = (w.heap.size + 1 + 1)) U9 X7 := by rw [hX7]; exact on6.setCell (p := ⟨(w.heap.size + 1 + 1), 9, none⟩) (.inl rfl) (.int .u8 (a3 : Nat))
  clear k6 on6
  obtain ⟨X8, hX8⟩ : ∃ X8, X8 = X7.setCell ⟨(w.heap.size + 1 + 1), 11, none⟩ (.int .u8 (d0 : Nat)) := ⟨_, rfl⟩
  have k8 : X8.heap[(w.heap.size + 1 + 1)]? = some (.cells #[.int .u8 (q0 : Nat), .int .u16 (q3 : Nat), .int .u16 (q4 : Nat), .int .u8 (a0 : Nat), .int .u8 (a1 : Nat), .int .u8 (a2 : Nat), .slice AR1 LR1.length cR1, .slice AR2 LR2.length cR2, .bool a4, .int .u8 (a3 : Nat), .bool q1, .int .u8 (d0 : Nat), .int .u8 0, .int .u8 0, .slice none 0 0, .slice none 0 0, .bool false, .int .u8 0, .slice none 0 0] 28 (0, 0)) := by rw [hX8]; exact set_cell k7 11 (.int .u8 (d0 : Nat))
  have on8 : Only (fun j => j = (w.heap.size + 1 + 1)) U9 X8 := by rw [hX8]; exact on7.setCell (p := ⟨(w.heap.size + 1 + 1), 11, none⟩) (.inl rfl) (.int .u8 (d0 : Nat))
  clear k7 on7
  obtain ⟨X9, hX9⟩ : ∃ X9, X9 = X8.setCell ⟨(w.heap.size + 1 + 1), 12, none⟩ (.int .u8 (d1 : Nat)) := ⟨_, rfl⟩
  have k9 : X9.heap[(w.heap.size + 1 + 1)]? = some (.cells #[.int .u8 (q0 : Nat), .int .u16 (q3 : Nat), .int .u16 (q4 : Nat), .int .u8 (a0 : Nat), .int .u8 (a1 : Nat), .int .u8 (a2 : Nat), .slice AR1 LR1.length cR1, .slice AR2 LR2.length cR2, .bool a4, .int .u8 (a3 : Nat), .bool q1, .int .u8 (d0 : Nat), .int .u8 (d1 : Nat), .int .u8 0, .slice none 0 0, .slice none 0 0, .bool false, .int .u8 0, .slice none 0 0] 28 (0, 0)) := by rw [hX9]; exact set_cell k8 12 (.int .u8 (d1 : Nat))
  have on9 : Only (fun j => j = (w.heap.size + 1 + 1)) U9 X9 := by rw [hX9]; exact on8.setCell (p := ⟨(w.heap.size + 1 + 1), 12, none⟩) (.inl rfl) (.int .u8 (d1 : Nat))
  clear k8 on8
  obtain ⟨X10, hX10⟩ : ∃ X10, X10 = X9.setCell ⟨(w.heap.size + 1 + 1), 13, none⟩ (.int .u8 (d2 : Nat)) := ⟨_, rfl⟩
  have k10 : X10.heap[(w.heap.size + 1 + 1)]? = some (.cells #[.int .u8 (q0 : Nat), .int .u16 (q3 : Nat), .int .u16 (q4 : Nat), .int .u8 (a0 : Nat), .int .u8 (a1 : Nat), .int .u8 (a2 : Nat), .slice AR1 LR1.length cR1, .slice AR2 LR2.length cR2, .bool a4, .int .u8 (a3 : Nat), .bool q1, .int .u8 (d0 : Nat), .int .u8 (d1 : Nat), .int .u8 (d2 : Nat), .slice none 0 0, .slice none 0 0, .bool false, .int .u8 0, .slice none 0 0] 28 (0, 0)) := by rw [hX10]; exact set_cell k9 13 (.int .u8 (d2 : Nat))
  have on10 : Only (fun j => j = (w.heap.size + 1 + 1)) U9 X10 := by rw [hX10]; exact on9.setCell (p := ⟨(w.heap.size + 1 + 1), 13, none⟩) (.inl rfl) (.int .u8 (d2 : Nat))
  clear k9 on9
  obtain ⟨X11, hX11⟩ : ∃ X11, X11 = X10.setCell ⟨(w.heap.size + 1 + 1), 14, none⟩ (.slice AR3 LR3.length cR3) := ⟨_, rfl⟩
  have k11 : X11.heap[(w.heap.size + 1 + 1)]? = some (.cells #[.int .u8 (q0 : Nat), .int .u16 (q3 : Nat), .int .u16 (q4 : Nat), .int .u8 (a0 : Nat), .int .u8 (a1 : Nat), .int .u8 (a2 : Nat), .slice AR1 LR1.length cR1, .slice AR2 LR2.length cR2, .bool a4, .int .u8 (a3 : Nat), .bool q1, .int .u8 (d0 : Nat), .int .u8 (d1 : Nat), .int .u8 (d2 : Nat), .slice AR3 LR3.length cR3, .slice none 0 0, .bool false, .int .u8 0, .slice none 0 0] 28 (0, 0)) := by rw [hX11]; exact set_cell k10 14 (.slice AR3 LR3.length cR3)
  have on11 : Only (fun j => j = (w.heap.size + 1 + 1)) U9 X11 := by rw [hX11]; exact on10.setCell (p := ⟨(w.heap.size + 1 + 1), 14, none⟩) (.inl rfl) (.slice AR3 LR3.length cR3)
  clear k10 on10
  obtain ⟨X12, hX12⟩ : ∃ X12, X12 = X11.setCell ⟨(w.heap.size + 1 + 1), 15, none⟩ (.slice AR4 LR4.length cR4) := ⟨_, rfl⟩
  have k12 : X12.heap[(w.heap.size + 1 + 1)]? = some (.cells #[.int .u8 (q0 : Nat), .int .u16 (q3 : Nat), .int .u16 (q4 : Nat), .int .u8 (a0 : Nat), .int .u8 (a1 : Nat), .int .u8 (a2 : Nat), .slice AR1 LR1.length cR1, .slice AR2 LR2.length cR2, .bool a4, .int .u8 (a3 : Nat), .bool q1, .int .u8 (d0 : Nat), .int .u8 (d1 : Nat), .int .u8 (d2 : Nat), .slice AR3 LR3.length cR3, .slice AR4 LR4.length cR4, .bool false, .int .u8 0, .slice none 0 0] 28 (0, 0)) := by rw [hX12]; exact set_cell k11 15 (.slice AR4 LR4.length cR4)
  have on12 : Only (fun j => j = (w.heap.size + 1 + 1)) U9 X12 := by rw [hX12]; exact on11.setCell (p := ⟨(w.heap.size + 1 + 1), 15, none⟩) (.inl rfl) (.slice AR4 LR4.length cR4)
  clear k11 on11
  obtain ⟨X13, hX13⟩ : ∃ X13, X13 = X12.setCell ⟨(w.heap.size + 1 + 1), 16, none⟩ (.bool d4) := ⟨_, rfl⟩
  have k13 : X13.heap[(w.heap.size + 1 + 1)]? = some (.cells #[.int .u8 (q0 : Nat), .int .u16 (q3 : Nat), .int .u16 (q4 : Nat), .int .u8 (a0 : Nat), .int .u8 (a1 : Nat), .int .u8 (a2 : Nat), .slice AR1 LR1.length cR1, .slice AR2 LR2.length cR2, .bool a4, .int .u8 (a3 : Nat), .bool q1, .int .u8 (d0 : Nat), .int .u8 (d1 : Nat), .int .u8 (d2 : Nat), .slice AR3 LR3.length cR3, .slice AR4 LR4.length cR4, .bool d4, .int .u8 0, .slice none 0 0] 28 (0, 0)) := by rw [hX13]; exact set_cell k12 16 (.bool d4)
  have on13 : Only (fun j => j = (w.heap.size + 1 + 1)) U9 X13 := by rw [hX13]; exact on12.setCell (p := ⟨(w.heap.size + 1 + 1), 16, none⟩) (.inl rfl) (.bool d4)
  clear k12 on12
  obtain ⟨X14, hX14⟩ : ∃ X14, X14 = X13.setCell ⟨(w.heap.size + 1 + 1), 17, none⟩ (.int .u8 (d3 : Nat)) := ⟨_, rfl⟩
  have k14 : X14.heap[(w.heap.size + 1 + 1)]? = some (.cells #[.int .u8 (q0 : Nat), .int .u16 (q3 : Nat), .int .u16 (q4 : Nat), .int .u8 (a0 : Nat), .int .u8 (a1 : Nat), .int .u8 (a2 : Nat), .slice AR1 LR1.length cR1, .slice AR2 LR2.length cR2, .bool a4, .int .u8 (a3 : Nat), .bool q1, .int .u8 (d0 : Nat), .int .u8 (d1 : Nat), .int .u8 (d2 : Nat), .slice AR3 LR3.length cR3, .slice AR4 LR4.length cR4, .bool d4, .int .u8 (d3 : Nat), .slice none 0 0] 28 (0, 0)) := by rw [hX14]; exact set_cell k13 17 (.int .u8 (d3 : Nat))
  have on14 : Only (fun j => j = (w.heap.size + 1 + 1)) U9 X14 := by rw [hX14]; exact on13.setCell (p := ⟨(w.heap.size + 1 + 1), 17, none⟩) (.inl rfl) (.int .u8 (d3 : Nat))
  clear k13 on13
  have hOn := on14
  have hCB := k14
  clear k14 on14
  have HOn := Lib.hid hOn.drew
  have HCB : Hid (X14.drew.heap[(w.heap.size + 1 + 1)]? = some (.cells #[.int .u8 (q0 : Nat), .int .u16 (q3 : Nat), .int .u16 (q4 : Nat), .int .u8 (a0 : Nat), .int .u8 (a1 : Nat), .int .u8 (a2 : Nat), .slice AR1 LR1.length cR1, .slice AR2 LR2.length cR2, .bool a4, .int .u8 (a3 : Nat), .bool q1, .int .u8 (d0 : Nat), .int .u8 (d1 : Nat), .int .u8 (d2 : Nat), .slice AR3 LR3.length cR3, .slice AR4 LR4.length cR4, .bool d4, .int .u8 (d3 : Nat), .slice none 0 0] 28 (0, 0))) := Lib.hid hCB
  clear hOn hCB
  go_cut [5] (fun v wx => v = .int .i64 (q2 : Nat) ∧ wx = X14.drew)
  case first =>
    go_region
    all_goals
      go_wp2
      go_meet
      exact ⟨rfl, by rw [hX14, hX13, hX12, hX11, hX10, hX9, hX8, hX7, hX6, hX5, hX4, hX3, hX2, hX1]⟩
  case rest =>
  obtain ⟨rfl, rfl⟩ := hcut
  clear ya0 yd0 ya1 yd1 ya2 yd2 ya3 yd3 ya4 yd4 ya5 yd5 ya6 yd6 f3 yc3 f4 yc4 f5 yc5 f6 yc6 f7 yc7 f8 yc8 f9 yc9 f11 yc11 f12 yc12 f13 yc13 f14 yc14 f15 yc15 f16 yc16 f17 yc17 hX14 hX13 hX12 hX11 hX10 hX9 hX8 hX7 hX6 hX5 hX4 hX3 hX2 hX1 CB BA BD
  obtain ⟨Y, hY⟩ : ∃ Y, Y = X14.drew := ⟨_, rfl⟩
  rw [← hY] at HOn HCB ⊢
  clear hY
  have CB := HCB
  have nZR : Hid (Y.heap[(w.heap.size + 1)]? = some (.cells zA 28 (0, 0))) := Lib.hid ((HOn.out.block _ (lt_of_cells ZR.out) (by omega)).trans ZR.out)
  have nT := Lib.hid (T.out.keep HOn.out (by omega))
  have nBE : Hid (Below w.heap.size w Y) := Lib.hid (BE.out.trans (HOn.out.below BE.out.size (fun i hi => by omega)))
  replace R1 := Lib.hid (R1.out.keep HOn.out (fun ad e hF => by have := R1.out.2 ad e; omega))
  replace R2 := Lib.hid (R2.out.keep HOn.out (fun ad e hF => by have := R2.out.2 ad e; omega))
  replace R3 := Lib.hid (R3.out.keep HOn.out (fun ad e hF => by have := R3.out.2 ad e; omega))
  replace R4 := Lib.hid (R4.out.keep HOn.out (fun ad e hF => by have := R4.out.2 ad e; omega))
  clear HOn HCB ZR T BE
  have ZR := nZR
  have T := nT
  have BE := nBE
  clear nZR nT nBE
  have hgeX : w.heap.size + 1 + 1 + 1 < Y.heap.size := T.out.lt
  go_wp2_with (fail)
  refine (getAllX_row (w.heap.size + 1 + 1 + 1) l 12 q2 Y T.out hl HW.out (by decide)).mono ?_
  rintro e w14 ⟨AX, cX, LX, rfl, EX, hM, h1, h2⟩
  replace ZR := Lib.hid (cells_keep ZR.out h2 (by omega))
  replace CB := Lib.hid (cells_keep CB.out h2 (by omega))
  replace R1 := Lib.hid (R1.out.keep h2 (fun ad e hF => by have := R1.out.2 ad e; omega))
  replace R2 := Lib.hid (R2.out.keep h2 (fun ad e hF => by have := R2.out.2 ad e; omega))
  replace R3 := Lib.hid (R3.out.keep h2 (fun ad e hF => by have := R3.out.2 ad e; omega))
  replace R4 := Lib.hid (R4.out.keep h2 (fun ad e hF => by have := R4.out.2 ad e; omega))
  replace T := Lib.hid h1
  replace BE := Lib.hid (BE.out.trans (h2.below BE.out.size (fun i hi => by omega)))
  clear h1 h2
  have RX := Lib.hid (hM.from (v := Y) (Nat.le_refl _))
  clear hM
  have y : w14.cell? ⟨(w.heap.size + 1 + 1), 18, none⟩ = some (.slice none 0 0) := cells_c CB.out 18
  have f := cells_f CB.out 18
  obtain ⟨U10, hU10⟩ : ∃ U10, U10 = w14.setCell ⟨(w.heap.size + 1 + 1), 18, none⟩ (.slice AX LX.length cX) := ⟨_, rfl⟩
  have nZR := Lib.hid (cells_set ZR.out (p := ⟨(w.heap.size + 1 + 1), 18, none⟩) (.slice AX LX.length cX) (by show _ ≠ (w.heap.size + 1 + 1); omega))
  rw [← hU10] at nZR
  have nCB : Hid (U10.heap[(w.heap.size + 1 + 1)]? = some (.cells #[.int .u8 (q0 : Nat), .int .u16 (q3 : Nat), .int .u16 (q4 : Nat), .int .u8 (a0 : Nat), .int .u8 (a1 : Nat), .int .u8 (a2 : Nat), .slice AR1 LR1.length cR1, .slice AR2 LR2.length cR2, .bool a4, .int .u8 (a3 : Nat), .bool q1, .int .u8 (d0 : Nat), .int .u8 (d1 : Nat), .int .u8 (d2 : Nat), .slice AR3 LR3.length cR3, .slice AR4 LR4.length cR4, .bool d4, .int .u8 (d3 : Nat), .slice AX LX.length cX] 28 (0, 0))) := Lib.hid (by rw [hU10]; exact set_cell CB.out 18 (.slice AX LX.length cX))
  have nR1 := Lib.hid (R1.out.other (a := ⟨(w.heap.size + 1 + 1), 18, none⟩) (.slice AX LX.length cX) (fun ad e => by have := R1.out.2 ad e; show _ ≠ (w.heap.size + 1 + 1); omega))
  rw [← hU10] at nR1
  have nR2 := Lib.hid (R2.out.other (a := ⟨(w.heap.size + 1 + 1), 18, none⟩) (.slice AX LX.length cX) (fun ad e => by have := R2.out.2 ad e; show _ ≠ (w.heap.size + 1 + 1); omega))
  rw [← hU10] at nR2
  have nR3 := Lib.hid (R3.out.other (a := ⟨(w.heap.size + 1 + 1), 18, none⟩) (.slice AX LX.length cX) (fun ad e => by have := R3.out.2 ad e; show _ ≠ (w.heap.size + 1 + 1); omega))
  rw [← hU10] at nR3
  have nR4 := Lib.hid (R4.out.other (a := ⟨(w.heap.size + 1 + 1), 18, none⟩) (.slice AX LX.length cX) (fun ad e => by have := R4.out.2 ad e; show _ ≠ (w.heap.size + 1 + 1); omega))
  rw [← hU10] at nR4
  have nRX := Lib.hid (RX.out.other (a := ⟨(w.heap.size + 1 + 1), 18, none⟩) (.slice AX LX.length cX) (fun ad e => by have := RX.out.2 ad e; show _ ≠ (w.heap.size + 1 + 1); omega))
  rw [← hU10] at nRX
  have nT := Lib.hid (T.out.setCell (p := ⟨(w.heap.size + 1 + 1), 18, none⟩) (.slice AX LX.length cX) (by show _ ≠ (w.heap.size + 1 + 1); omega))
  rw [← hU10] at nT
  have nBE : Hid (Below w.heap.size w U10) := Lib.hid (by rw [hU10]; exact BE.out.setCell (p := ⟨(w.heap.size + 1 + 1), 18, none⟩) (by show _ ≤ (w.heap.size + 1 + 1); omega) (.slice AX LX.length cX))
  clear ZR; have ZR := nZR; clear nZR
  clear CB; have CB := nCB; clear nCB
  clear R1; have R1 := nR1; clear nR1
  clear R2; have R2 := nR2; clear nR2
  clear R3; have R3 := nR3; clear nR3
  clear R4; have R4 := nR4; clear nR4
  clear RX; have RX := nRX; clear nRX
  clear T; have T := nT; clear nT
  clear BE; have BE := nBE; clear nBE
  go_upto_region 18 with (fail)
  rw [← hU10]
  clear hU10 y f
  have HE : Hid (rdP l = ⟨q0, q3, q4, ⟨a0, a1, a2, LR1, LR2, a4, a3⟩, q1, ⟨d0, d1, d2, LR3, LR4, d4, d3⟩, LX⟩) := Lib.hid (by
    simp only [rdP, rdAc, Qq0.out, Qq1.out, Qq2.out, Qq3.out, Qq4.out, Qa0.out, Qa1.out, Qa2.out, Qa3.out, Qa4.out, Qa5.out, Qa6.out, Qd0.out, Qd1.out, Qd2.out, Qd3.out, Qd4.out, Qd5.out, Qd6.out, Nat.reduceAdd, ER1.out, ER2.out, ER3.out, ER4.out, EX.out])
  obtain ⟨x, hx⟩ : ∃ x : At, x = ⟨q0, q3, q4, ⟨a0, a1, a2, LR1, LR2, a4, a3⟩, q1, ⟨d0, d1, d2, LR3, LR4, d4, d3⟩, LX⟩ := ⟨_, rfl⟩
  obtain ⟨p, hp⟩ : ∃ p : ALie, p = ⟨⟨AR1, cR1, AR2, cR2⟩, ⟨AR3, cR3, AR4, cR4⟩, AX, cX⟩ := ⟨_, rfl⟩
  have hCB : U10.heap[(w.heap.size + 1 + 1)]? = some (.cells (x.c p) 28 (0, 0)) := by rw [hx, hp]; exact CB.out
  have hac : Lies U10 x.ac p.p := by rw [hx, hp]; exact ⟨R1.out.cel, R2.out.cel⟩
  have hdf : Lies U10 x.df p.q := by rw [hx, hp]; exact ⟨R3.out.cel, R4.out.cel⟩
  have hxs : Cel U10 p.X (xv x.xs) := by rw [hx, hp]; exact RX.out.cel
  have hne : ∀ (A : Option Addr) (xs : List Value), Cel U10 A xs → (∀ ad, A = some ad → 0 < xs.length → ad.block ≠ (w.heap.size + 1)) → Cel (U10.setRow (w.heap.size + 1) (x.c p)) A xs := fun A xs h hn => h.only (F := fun j => j = (w.heap.size + 1)) (Only.setRow (F := fun j => j = (w.heap.size + 1)) (Only.refl _ _) rfl _) (fun ad e h0 => hn ad e h0)
  have HL : Hid (ALies (U10.setRow (w.heap.size + 1) (x.c p)) x p) := Lib.hid ⟨⟨hne _ _ hac.us (fun ad e _ => by rw [hp] at e; have := R1.out.2 ad e; omega), hne _ _ hac.gs (fun ad e _ => by rw [hp] at e; have := R2.out.2 ad e; omega)⟩, ⟨hne _ _ hdf.us (fun ad e _ => by rw [hp] at e; have := R3.out.2 ad e; omega), hne _ _ hdf.gs (fun ad e _ => by rw [hp] at e; have := R4.out.2 ad e; omega)⟩, hne _ _ hxs (fun ad e _ => by rw [hp] at e; have := RX.out.2 ad e; omega)⟩
  have HAF : Hid (AFrom w.heap.size p) := Lib.hid (by rw [hp]; exact ⟨fun ad e => by have := R1.out.2 ad e; omega, fun ad e => by have := R2.out.2 ad e; omega, fun ad e => by have := R3.out.2 ad e; omega, fun ad e => by have := R4.out.2 ad e; omega, fun ad e => by have := RX.out.2 ad e; omega⟩)
  have HX : Hid (rdP l = x) := Lib.hid (by rw [HE.out, hx])
  have HCB := Lib.hid hCB
  have hone : (x.c p).all (·.oneCell') = true := by rw [← Array.all_toList]; rfl
  have HQ : Hid ((U10.setRow (w.heap.size + 1) (x.c p)).heap[(w.heap.size + 1)]? = some (.cells (x.c p) 28 (0, 0))) := Lib.hid (setRow_heap _ _ _ _ _ _ ZR.out)
  have HBQ : Hid (Below w.heap.size w (U10.setRow (w.heap.size + 1) (x.c p))) := Lib.hid (below_setRow BE.out (by omega) _)
  clear CB hac hdf hxs hne hx hp hCB HE
  have hsz : (Tryz.prog.info? 28).map (·.size) = some (x.c p).size := attr_size
  have hold : (zA : Array Value).size = (x.c p).size := rfl
  obtain ⟨C2, hC2⟩ : ∃ C2, C2 = x.c p := ⟨_, rfl⟩
  rw [← hC2] at HCB hone HQ HBQ HL hsz hold
  obtain ⟨Z, hZ⟩ : ∃ Z, Z = U10.setRow (w.heap.size + 1) C2 := ⟨_, rfl⟩
  rw [← hZ] at HQ HBQ HL
  have HC2 := Lib.hid hC2
  clear hC2
  go_wp2_with (first
    | (refine wpList_load_row rfl 28 (.tmp 3) rfl (w.heap.size + 1 + 1) rfl 28 C2 (0, 0) _ HCB.out Tryz.underlying28 rfl hsz ?_)
    | (refine wpList_store_rowTo rfl 28 (.tmp 2) (.tmp 63) rfl rfl (w.heap.size + 1) C2 rfl rfl 28 _ ZR.out hsz hold hone ?_; rw [← hZ]))
  exact bodyPost_ret (results_cell_row rfl _ _ (w.heap.size + 1) 28 _ (0, 0) _ rfl HQ.out Tryz.underlying28 rfl hsz) rfl ⟨p, by rw [HC2.out, HX.out], by rw [HX.out]; exact HL.out, HAF.out, HBQ.out⟩
end Go.Proofs.YtlejmpinfbmccaaGreatDoor
