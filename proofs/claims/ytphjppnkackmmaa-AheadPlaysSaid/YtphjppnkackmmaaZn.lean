/- What is loaded is what was put last, and is not done since. -/
import Derived.Test.YtphjppnkackmmaaZk
import Derived.Test.YtphjppnkackmmaaZs
import Derived.Test.YtphjppnkackmmaaZj
set_option linter.unusedSimpArgs false
set_option linter.unusedVariables false
namespace Go.Proofs.Ytphjppnkackmmaa
open Go Go.RowKit SumMath WordMath
/-- Bools as cells. -/
def bv (l : List Bool) : List Value := l.map .bool
theorem bv_set (l : List Bool) (k : Nat) (v : Bool) : (bv l).set k (.bool v) = bv (l.set k v) := by
  unfold bv
  rw [List.map_set]
theorem bv_get {l : List Bool} {k : Nat} (h : k < l.length) : (bv l)[k]? = some (.bool (l.getD k false)) := by
  unfold bv
  rw [List.getElem?_map, List.getElem?_eq_getElem h, List.getD_eq_getElem?_getD, List.getElem?_eq_getElem h]; rfl
structure Lst (w wr : World) (g b g6 g7 : Nat) (T : List Re) (is : List Bool) (wd : List Nat) : Prop where
  ah : Ah wr g b T
  ib : wr.heap[g6]? = some (.cells (bv is).toArray 43 (0, 0))
  wb : wr.heap[g7]? = some (.cells (wv wd).toArray 44 (0, 0))
  on : Below w.heap.size w wr
section
variable {w wr wr' : World} {g b g6 g7 : Nat} {T U : List Re} {is : List Bool} {wd : List Nat}
theorem Lst.below (h : Lst w wr g b g6 g7 T is wd) (hb : Below wr.heap.size wr wr') : Lst w wr' g b g6 g7 T is wd :=
  ⟨h.ah.below hb, (hb.block _ (lt_of_cells h.ib)).trans h.ib, (hb.block _ (lt_of_cells h.wb)).trans h.wb, h.on.trans (hb.mono h.on.size)⟩
theorem Lst.turn (h : Lst w wr g b g6 g7 T is wd) (hg : wr.grownBy wr' (some b)) (hA : Ah wr' g b U) (hb : w.heap.size ≤ b) : Lst w wr' g b g6 g7 U is wd :=
  ⟨hA, (hg.block _ (lt_of_cells h.ib) (fun e => h.ah.map.ne_cells h.ib (by injection e))).trans h.ib, (hg.block _ (lt_of_cells h.wb) (fun e => h.ah.map.ne_cells h.wb (by injection e))).trans h.wb, h.on.grown hg h.on.size (fun j e => by injection e with e; omega)⟩
theorem Lst.bool (h : Lst w wr g b g6 g7 T is wd) {a : Nat} (ha : a < is.length) : wr.cell? ⟨g6, a, none⟩ = some (.bool (is.getD a false)) ∧ wr.frozen? ⟨g6, a, none⟩ = false := by
  refine ⟨?_, frozen_of h.ib⟩
  rw [cell_of_row wr g6 a _ _ _ h.ib, List.getElem?_toArray, bv_get ha]
theorem Lst.word (h : Lst w wr g b g6 g7 T is wd) {a : Nat} (ha : a < wd.length) : wr.cell? ⟨g7, a, none⟩ = some (.int .u64 ((wd.getD a 0 : Nat) : Int)) ∧ wr.frozen? ⟨g7, a, none⟩ = false := by
  refine ⟨?_, frozen_of h.wb⟩
  rw [cell_of_row wr g7 a _ _ _ h.wb, List.getElem?_toArray, wv_get wd a ha]
theorem Lst.setI (h : Lst w wr g b g6 g7 T is wd) (h6 : w.heap.size ≤ g6) (a : Nat) (v : Bool) : Lst w (wr.setCell ⟨g6, a, none⟩ (.bool v)) g b g6 g7 T (is.set a v) wd := by
  have n1 := h.ah.map.ne_cells h.ib
  have n2 := cells_type h.ah.at' h.ib (by decide)
  have n3 := cells_type h.wb h.ib (by decide)
  refine ⟨h.ah.keep (Below.heap_setCell _ _ _ _ n2) (Below.heap_setCell _ _ _ _ (Ne.symm n1)), ?_, (Below.heap_setCell _ _ _ _ n3).trans h.wb, h.on.setCell h6 _⟩
  have := set_cell h.ib a (.bool v)
  rw [this, ← bv_set]
  simp
theorem Lst.setW (h : Lst w wr g b g6 g7 T is wd) (h7 : w.heap.size ≤ g7) (a : Nat) (v : Nat) : Lst w (wr.setCell ⟨g7, a, none⟩ (.int .u64 (v : Int))) g b g6 g7 T is (wd.set a v) := by
  have n1 := h.ah.map.ne_cells h.wb
  have n2 := cells_type h.ah.at' h.wb (by decide)
  have n3 := cells_type h.ib h.wb (by decide)
  refine ⟨h.ah.keep (Below.heap_setCell _ _ _ _ n2) (Below.heap_setCell _ _ _ _ (Ne.symm n1)), (Below.heap_setCell _ _ _ _ n3).trans h.ib, ?_, h.on.setCell h7 _⟩
  have := set_cell h.wb a (.int .u64 (v : Int))
  rw [this, wv_set]
  simp
end
theorem rise_len {m : Nat} : ∀ {T : List Re} {lo : Int}, Rise T → (∀ e ∈ T, lo ≤ e.pos ∧ e.pos < (m : Int)) → lo ≤ (m : Int) → (T.length : Int) ≤ (m : Int) - lo := by
  intro T
  induction T with
  | nil => intro lo _ _ h; simp only [List.length_nil]; omega
  | cons e r ih =>
    intro lo h hi _
    unfold Rise at h
    rw [List.pairwise_cons] at h
    have h1 := hi e (by simp)
    have := ih (lo := e.pos + 1) h.2 (fun y hy => ⟨by have := h.1 y hy; omega, (hi y (List.mem_cons_of_mem _ hy)).2⟩) (by omega)
    rw [List.length_cons]
    omega
theorem told_len {m : Nat} {T : List Re} {is : List Bool} {wd : List Nat} (h : SumMath.Told m T is wd) : T.length ≤ m := by
  have := rise_len (m := m) (lo := 0) h.rise (fun e he => in_pos (List.all_eq_true.1 h.inn e he)) (by omega)
  omega
theorem OwnR.row_ne {w : World} {e e' : TypeId} {size n c i : Nat} {A : Option Addr} {xs : List Value} {C : Array Value} (h : OwnR w e size A n c xs) (hi : w.heap[i]? = some (.cells C e' (0, 0))) (he : e ≠ e') : some i ≠ A.map (·.block) := fun ee => by
  cases A with
  | none => cases ee
  | some ad =>
    injection ee with ee
    exact h.apart hi he ad rfl ee.symm
theorem OwnR.row_ne_map {w : World} {e : TypeId} {size n c b : Nat} {A : Option Addr} {xs : List Value} {T : List Re} (h : OwnR w e size A n c xs) (m : MH w b T) : some b ≠ A.map (·.block) := fun ee => by
  obtain ⟨_, _, _, h4⟩ := h
  rcases h4 with ⟨h4, _⟩ | ⟨g, cur, h4, hg, _⟩
  · subst h4; cases ee
  · subst h4
    injection ee with ee
    exact m.ne_cells hg ee.symm
theorem Lst.row {w wr wr' : World} {g b g6 g7 n c : Nat} {T : List Re} {is : List Bool} {wd : List Nat} {R : Option Addr} {xs : List Value} (h : Lst w wr g b g6 g7 T is wd) (ho : OwnR wr 38 2 R n c xs) (hg : wr.grownBy wr' (R.map (·.block))) (hb : Below w.heap.size w wr') : Lst w wr' g b g6 g7 T is wd :=
  ⟨h.ah.keep (hg.block _ h.ah.ltg (ho.row_ne h.ah.at' (by decide))) (hg.block _ h.ah.ltb (ho.row_ne_map h.ah.map)), (hg.block _ (lt_of_cells h.ib) (ho.row_ne h.ib (by decide))).trans h.ib, (hg.block _ (lt_of_cells h.wb) (ho.row_ne h.wb (by decide))).trans h.wb, hb⟩
theorem ownM_rn {m : Nat} (hm : 0 < m) (hm2 : m ≤ 1000000) {L : List Re} (h : RN L) : RN (ownM m L) := fun k hk => by
  rw [ownM_len] at hk
  have e : (ownM m L).getD k re0 = inM m (L.getD k re0) := by
    unfold ownM
    rw [List.getD_eq_getElem?_getD, List.getElem?_map, List.getElem?_eq_getElem hk, List.getD_eq_getElem?_getD, List.getElem?_eq_getElem hk]; rfl
  rw [e]
  have h1 := mod_in (L.getD k re0).pos m hm
  have h2 := h k hk
  show -9223372036854775808 ≤ (L.getD k re0).pos % (m : Int) ∧ (L.getD k re0).pos % (m : Int) ≤ 9223372036854775807 ∧ (L.getD k re0).word < 18446744073709551616
  omega
theorem mod_letter (x : Int) (m : Nat) (hm : 0 < m) : ∃ a : Nat, a < m ∧ (x.tmod (m : Int) + (m : Int)).tmod (m : Int) = (a : Int) ∧ x % (m : Int) = (a : Int) ∧ -(m : Int) < x.tmod (m : Int) ∧ x.tmod (m : Int) < (m : Int) := by
  have h1 := mod_in x m hm
  obtain ⟨a, ha⟩ := Int.eq_ofNat_of_zero_le h1.1
  refine ⟨a, by omega, by rw [mod_mod x m (by omega), ha], ha, ?_, Int.tmod_lt_of_pos x (by omega)⟩
  rcases Int.le_total 0 x with h | h
  · have := Int.tmod_nonneg (m : Int) h; omega
  · have h3 := Int.tmod_lt_of_pos (-x) (show (0 : Int) < (m : Int) by omega)
    rw [Int.neg_tmod] at h3
    omega
set_option maxRecDepth 100000 in
set_option maxHeartbeats 4000000 in
theorem last_law (w : World) (A : Option Addr) (l : List St) (c d : Nat) (hr : SRow w A l) (hok : ∀ k, k < l.length → StOK w (l.getD k s0)) (hlen : l.length ≤ 9223372036854775807) :
    Calls Try.prog 4 #[.slice A l.length c, .int .u64 (d : Nat)] w fun e w' => e = .returned (.bool true) ∧ Below w.heap.size w w' := by
  have HH := Lib.hid (heavy_calls w A l c hr hok hlen)
  have HR := Lib.hid hr
  have HO := Lib.hid hok
  obtain ⟨N, hN⟩ : ∃ N, l.length = N := ⟨_, rfl⟩
  have HL := Lib.hid hN
  rw [hN] at hlen HH ⊢
  clear hr hok hN
  go_enter Try.func4, Try.ntmps4
  go_wp2_with (fail)
  refine HH.out.mono ?_
  rintro e w' ⟨hv, rfl, rfl, hlt⟩
  cases hv with
  | true =>
    go_wp2_with (fail)
    refine (alive_calls _).mono ?_
    rintro e w' ⟨rfl, hb⟩
    replace hb := Lib.hid hb
    go_wp2_with (fail)
    go_ret
    exact ⟨rfl, hb.out⟩
  | false =>
    have HLT := Lib.hid (hlt rfl)
    clear hlt HH
    go_wp2_with (fail)
    refine (new_calls _).mono ?_
    rintro e w1 ⟨g, b, rfl, hg, hb, hA1, hB1⟩
    have HA1 := Lib.hid hA1
    have HB1 := Lib.hid hB1
    have hsz1 := hB1.size
    clear hA1 hB1
    go_wp2_with (fail)
    obtain ⟨V, hV⟩ : ∃ V, V = (w1.alloc (.cells #[.bool false, .bool false, .bool false, .bool false, .bool false, .bool false, .bool false, .bool false, .bool false, .bool false, .bool false, .bool false, .bool false, .bool false, .bool false, .bool false, .bool false, .bool false, .bool false, .bool false, .bool false, .bool false, .bool false, .bool false, .bool false, .bool false, .bool false, .bool false, .bool false, .bool false, .bool false, .bool false, .bool false, .bool false, .bool false, .bool false, .bool false, .bool false, .bool false, .bool false, .bool false, .bool false, .bool false, .bool false, .bool false, .bool false, .bool false, .bool false, .bool false, .bool false, .bool false, .bool false, .bool false, .bool false, .bool false, .bool false, .bool false, .bool false, .bool false, .bool false, .bool false, .bool false, .bool false, .bool false] 43)).alloc (.cells #[.int .u64 0, .int .u64 0, .int .u64 0, .int .u64 0, .int .u64 0, .int .u64 0, .int .u64 0, .int .u64 0, .int .u64 0, .int .u64 0, .int .u64 0, .int .u64 0, .int .u64 0, .int .u64 0, .int .u64 0, .int .u64 0, .int .u64 0, .int .u64 0, .int .u64 0, .int .u64 0, .int .u64 0, .int .u64 0, .int .u64 0, .int .u64 0, .int .u64 0, .int .u64 0, .int .u64 0, .int .u64 0, .int .u64 0, .int .u64 0, .int .u64 0, .int .u64 0, .int .u64 0, .int .u64 0, .int .u64 0, .int .u64 0, .int .u64 0, .int .u64 0, .int .u64 0, .int .u64 0, .int .u64 0, .int .u64 0, .int .u64 0, .int .u64 0, .int .u64 0, .int .u64 0, .int .u64 0, .int .u64 0, .int .u64 0, .int .u64 0, .int .u64 0, .int .u64 0, .int .u64 0, .int .u64 0, .int .u64 0, .int .u64 0, .int .u64 0, .int .u64 0, .int .u64 0, .int .u64 0, .int .u64 0, .int .u64 0, .int .u64 0, .int .u64 0] 44) := ⟨_, rfl⟩
    have hST : Lst w V g b w1.heap.size (w1.heap.size + 1) [] (List.replicate 64 false) (List.replicate 64 0) := by
      have e1 : (w1.alloc (.cells #[.bool false, .bool false, .bool false, .bool false, .bool false, .bool false, .bool false, .bool false, .bool false, .bool false, .bool false, .bool false, .bool false, .bool false, .bool false, .bool false, .bool false, .bool false, .bool false, .bool false, .bool false, .bool false, .bool false, .bool false, .bool false, .bool false, .bool false, .bool false, .bool false, .bool false, .bool false, .bool false, .bool false, .bool false, .bool false, .bool false, .bool false, .bool false, .bool false, .bool false, .bool false, .bool false, .bool false, .bool false, .bool false, .bool false, .bool false, .bool false, .bool false, .bool false, .bool false, .bool false, .bool false, .bool false, .bool false, .bool false, .bool false, .bool false, .bool false, .bool false, .bool false, .bool false, .bool false, .bool false] 43)).heap.size = w1.heap.size + 1 := by simp
      refine ⟨?_, ?_, ?_, ?_⟩
      · rw [hV]
        exact (HA1.out.below ((Below.refl _ _).alloc (Nat.le_refl _) _)).below ((Below.refl _ _).alloc (Nat.le_refl _) _)
      · rw [hV]
        exact (Below.heap_alloc _ _ _ (by rw [e1]; omega)).trans (heap_alloc_new _ _)
      · rw [hV, ← e1]
        exact heap_alloc_new _ _
      · rw [hV]
        exact (HB1.out.alloc HB1.out.size _).alloc (by rw [e1]; omega) _
    have HST := Lib.hid hST
    rw [← hV]
    generalize hg6 : w1.heap.size = g6 at *
    generalize hg7 : g6 + 1 = g7 at *
    have h6 : w.heap.size ≤ g6 := by omega
    have h7 : w.heap.size ≤ g7 := by omega
    clear hV hST HA1 HB1 hg6 hg7 hsz1
    go_loopw [8, 9] (fun nn i wr => ∃ (k m : Nat) (T : List Re) (is : List Bool) (wd : List Nat), nn = .int .i64 m ∧ i = .int .i64 k ∧ k ≤ N ∧ m ≤ 64 ∧ Hid (T.length = m) ∧ Hid (SumMath.Told 64 T is wd) ∧ Hid (Lst w wr g b g6 g7 T is wd)) (fun _ i _ => N - (intOf i).toNat)
    case atStart => exact ⟨0, 0, [], _, _, rfl, rfl, Nat.zero_le _, by omega, rfl, Lib.hid (SumMath.Told.start 64), HST⟩
    case round =>
      obtain ⟨k, m, T, is, wd, rfl, rfl, hk, hm64, hTm, hT, hS⟩ := hrel
      by_cases h1 : k < N
      · have hrr := HR.out.below hS.out.on
        obtain ⟨b1, o1, rfl, hlb, hc⟩ := hrr (by rw [HL.out]; omega)
        obtain ⟨x0, x1, x2, x3⟩ := hc k (by rw [HL.out]; exact h1)
        have hst := HO.out k (by rw [HL.out]; exact h1)
        have hl2 := HLT.out.2 k (by rw [HL.out]; exact h1)
        clear hc hrr
        generalize l.getD k s0 = s at *
        obtain ⟨act, ka, L, kc, pos, word⟩ := s
        simp only at x0 x1 x2 x3 hl2
        have HSTO := Lib.hid hst
        obtain ⟨M, hLM⟩ : ∃ M, L.length = M := ⟨_, rfl⟩
        have HLM := Lib.hid hLM
        rw [hLM] at x1 hl2
        clear hst hLM
        have hbx : Below wr.heap.size wr (wr.alloc (.cells #[.int .i64 act, .slice ka M kc, .int .i64 pos, .int .u64 (word : Int)] 33)) := (Below.refl _ _).alloc (Nat.le_refl _) _
        obtain ⟨V2, hV2⟩ : ∃ V2, V2 = wr.alloc (.cells #[.int .i64 act, .slice ka M kc, .int .i64 pos, .int .u64 (word : Int)] 33) := ⟨_, rfl⟩
        have HS2 := Lib.hid (show Lst w V2 g b g6 g7 T is wd by rw [hV2]; exact hS.out.below hbx)
        have HX2 := Lib.hid (show V2.heap[wr.heap.size]? = some (.cells #[.int .i64 act, .slice ka M kc, .int .i64 pos, .int .u64 (word : Int)] 33 (0, 0)) by rw [hV2]; exact heap_alloc_new _ _)
        clear hbx
        by_cases ha : act = 0
        · subst ha
          go_upto_region 14 with (fail)
          rw [← hV2]
          clear hV2 x0 x1 x2 x3 hS
          go_wp2_with (fail)
          generalize wr.heap.size = gx at *
          go_loopw [8, 11, 12] (fun nn own kk wq => ∃ (k2 m2 : Nat) (X : List Re) (is2 : List Bool) (wd2 : List Nat) (R : Option Addr) (cr : Nat), nn = .int .i64 m2 ∧ own = .slice R k2 cr ∧ kk = .int .i64 k2 ∧ k2 ≤ M ∧ m2 ≤ 64 ∧ Hid (ownM 64 (L.take k2) = X) ∧ Hid ((putsT T X).length = m2) ∧ Hid (SumMath.Told 64 (putsT T X) is2 wd2) ∧ Hid (Lst w wq g b g6 g7 T is2 wd2) ∧ Hid (MineR w wq R k2 cr X) ∧ Hid (wq.heap[gx]? = some (.cells #[.int .i64 0, .slice ka M kc, .int .i64 pos, .int .u64 (word : Int)] 33 (0, 0)))) (fun _ _ kk _ => M - (intOf kk).toNat)
          case atStart => exact ⟨0, m, [], is, wd, none, 0, rfl, rfl, rfl, Nat.zero_le _, hm64, rfl, hTm, hT, HS2, Lib.hid (MineR.nil _ _), HX2⟩
          case round =>
            obtain ⟨k2, m2, X, is2, wd2, R, cr, rfl, rfl, rfl, hk2, hm2, hX, hXm, hT2, hS2, hO2, hX2⟩ := hrel
            have y1 : wr.cell? ⟨gx, 1, none⟩ = some (.slice ka M kc) := by rw [cell_of_row wr _ 1 _ _ _ hX2.out]; rfl
            have hszq := hS2.out.on.size
            by_cases h2 : k2 < M
            · obtain ⟨b2, o2, hka, hlb2, hc2⟩ := HSTO.out.cel.re (by rw [HLM.out]; omega)
              simp only at hka
              subst hka
              obtain ⟨f1, f2⟩ := hc2 k2 (by rw [HLM.out]; exact h2)
              have e1 := (hS2.out.on.cell (p := ⟨b2, o2 + k2 * 2, none⟩) hlb2).trans f1
              have e2 := (hS2.out.on.cell (p := ⟨b2, o2 + k2 * 2 + 1, none⟩) hlb2).trans f2
              have hmore := ownM_more (m := 64) (L := L) (k := k2) (by rw [HLM.out]; exact h2)
              rw [hX.out] at hmore
              clear hc2
              generalize L.getD k2 re0 = q at *
              obtain ⟨y, x⟩ := q
              simp only at e1 e2 f1 f2
              have F2 := Lib.hid f2
              clear f1 f2
              obtain ⟨a, ha64, hma, hmb, hmc, hmd⟩ := mod_letter y 64 (by decide)
              have hinm : inM 64 ⟨y, x⟩ = ⟨(a : Int), x⟩ := by unfold inM; rw [hmb]
              rw [hinm] at hmore
              have HMORE := Lib.hid hmore
              clear hmore hinm hmb
              have hma : (y.tmod 64 + 64).tmod 64 = (a : Int) := hma
              have hai : (a : Int) < 64 := by omega
              have hlb6 := lt_of_cells hS2.out.ib
              have hgxl := lt_of_cells hX2.out
              obtain ⟨i0, hi0, hz0, hs0, hb0⟩ := info_parts redo_info
              have HI := Lib.hid hi0
              have HZ := Lib.hid hz0
              have HS := Lib.hid hs0
              have HB := Lib.hid hb0
              have hmc2 : -64 < y.tmod 64 := hmc
              have hmd2 : y.tmod 64 < 64 := hmd
              have hw2 : IntKind.i64.wrap (y.tmod 64 + 64) = y.tmod 64 + 64 := by rw [IntKind.wrap_i64]; omega
              clear hmc hmd hmc2 hmd2
              clear hi0 hz0 hs0 hb0
              go_upto_region 20 with (first | (at_builtin; refine wpList_append_r rfl (.tmp 52) (.tmp 61) 28 rfl 38 i0 _ 2 16 Try.underlying28 HI.out HZ.out HS.out HB.out rfl R k2 cr (ev X) rfl (hO2.out.1.keep fun ad e => Below.heap_alloc _ _ _ (hO2.out.1.lt ad e)) ⟨wr.heap.size, 0, none⟩ 1 1 (ev [⟨(a : Int), x⟩]) rfl rfl (cells_re (heap_alloc_new _ _)) (ev_one _) (by decide) (by unfold maxLen; omega) (by omega) ?_; intro g2 c2 w2 hO3 hG3 hE3) | fail)
              obtain ⟨hM3, hb3⟩ := MineR.step (w := w) (by simp; omega) hO2.out.2 (hS2.out.on.alloc hS2.out.on.size _) hO3 hG3 hE3 rfl
              have hba : Below wr.heap.size wr (wr.alloc (.cells #[.int .i64 (a : Int), .int .u64 (x : Int)] 38)) := (Below.refl _ _).alloc (Nat.le_refl _) _
              have hoa := hO2.out.1.keep (w' := wr.alloc (.cells #[.int .i64 (a : Int), .int .u64 (x : Int)] 38)) fun ad e => Below.heap_alloc _ _ _ (hO2.out.1.lt ad e)
              have hS3 := (hS2.out.below hba).row hoa hG3 hb3
              have hXa := (hba.block _ hgxl).trans hX2.out
              have hX3 := (hG3.block gx (by have := hba.size; omega) (hoa.row_ne hXa (by decide))).trans hXa
              obtain ⟨hT3, hT3l⟩ := hT2.out.put ha64 x
              rw [← puts_snoc] at hT3 hT3l
              rw [hXm.out] at hT3l
              have il := hT2.out.il
              have wl := hT2.out.wl
              obtain ⟨z0, z1⟩ := hS3.bool (a := a) (by omega)
              have hS4 := hS3.setI h6 a true
              have nxi := cells_type hX3 hS3.ib (by decide)
              have hX4 := (Below.heap_setCell w2 ⟨g6, a, none⟩ (.bool true) gx nxi).trans hX3
              have y4 : (w2.setCell ⟨g6, a, none⟩ (.bool true)).cell? ⟨gx, 1, none⟩ = some (.slice (some ⟨b2, o2, none⟩) M kc) := by rw [cell_of_row _ _ 1 _ _ _ hX4]; rfl
              have e4 := (hS4.on.cell (p := ⟨b2, o2 + k2 * 2 + 1, none⟩) hlb2).trans F2.out
              obtain ⟨z4, z5⟩ := hS4.word (a := a) (by omega)
              have hS5 := hS4.setW h7 a x
              have nxw := cells_type hX4 hS4.wb (by decide)
              have hX5 := (Below.heap_setCell (w2.setCell ⟨g6, a, none⟩ (.bool true)) ⟨g7, a, none⟩ (.int .u64 (x : Int)) gx nxw).trans hX4
              have hM4 : MineR w (w2.setCell ⟨g6, a, none⟩ (.bool true)) (some ⟨g2, 0, none⟩) (k2 + 1) c2 (X ++ [⟨(a : Int), x⟩]) := ⟨hM3.1.other _ (fun ad e => hM3.1.apart hS3.ib (by decide) ad e), hM3.2⟩
              have hM5 : MineR w ((w2.setCell ⟨g6, a, none⟩ (.bool true)).setCell ⟨g7, a, none⟩ (.int .u64 (x : Int))) (some ⟨g2, 0, none⟩) (k2 + 1) c2 (X ++ [⟨(a : Int), x⟩]) := ⟨hM4.1.other _ (fun ad e => hM4.1.apart hS4.wb (by decide) ad e), hM3.2⟩
              have ET := Lib.hid hT3
              have ES := Lib.hid hS5
              have EX := Lib.hid hX5
              have EM := Lib.hid hM5
              clear hM3 hb3 hba hoa hS3 hXa hX3 hT3 hS4 hX4 hS5 hX5 hM4 hM5 hO3 hG3 hE3 y1 e1 e2 hlb6 hgxl il wl
              generalize wd2.getD a 0 = oldw at *
              cases hbb : is2.getD a false with
              | true =>
                rw [hbb] at z0 hT3l
                rw [if_pos rfl] at hT3l
                have EL := Lib.hid hT3l
                clear hbb hT3l
                go_upto_region 23 with (fail)
                obtain ⟨V3, hV3⟩ : ∃ V3, V3 = w2.setCell ⟨g6, a, none⟩ (.bool true) := ⟨_, rfl⟩
                rw [← hV3] at y4 e4 z4 z5 ES EX EM ⊢
                clear hV3 z0 z1
                go_wp2_with (fail)
                go_roundw
                case rel => exact ⟨k2 + 1, m2, X ++ [⟨(a : Int), x⟩], _, _, _, c2, rfl, rfl, by go_num, by omega, hm2, HMORE, EL, ET, ES, EM, EX⟩
                case measure => simp [intOf]; omega
              | false =>
                rw [hbb] at z0 hT3l
                rw [if_neg (by decide)] at hT3l
                have hmm : m2 + 1 ≤ 64 := by rw [← hT3l]; exact told_len ET.out
                have EL := Lib.hid hT3l
                clear hbb hT3l
                go_upto_region 23 with (fail)
                obtain ⟨V3, hV3⟩ : ∃ V3, V3 = w2.setCell ⟨g6, a, none⟩ (.bool true) := ⟨_, rfl⟩
                rw [← hV3] at y4 e4 z4 z5 ES EX EM ⊢
                clear hV3 z0 z1
                go_wp2_with (fail)
                go_roundw
                case rel => exact ⟨k2 + 1, m2 + 1, X ++ [⟨(a : Int), x⟩], _, _, _, c2, by go_num, rfl, by go_num, by omega, hmm, HMORE, EL, ET, ES, EM, EX⟩
                case measure => simp [intOf]; omega
            · obtain rfl : M = k2 := by omega
              have hXL : ownM 64 L = X := by have := hX.out; rwa [show M = L.length from HLM.out.symm, List.take_length] at this
              have hXl : X.length = M := by rw [← hXL, ownM_len, HLM.out]
              have hP := put_calls hS2.out.ah R X cr hO2.out.cel (by rw [← hXL]; exact ownM_rn (by decide) (by decide) HSTO.out.rn) (by have := told_len hT.out; rw [hXl]; omega)
              rw [hXl, show putE X = 0 by unfold putE; rw [← hXL, ownM_pos (by decide)]; rfl, show putR T X = putsT T X by unfold putR; rw [← hXL, ownM_pos (by decide)]; rfl] at hP
              have HP := Lib.hid hP
              clear hP hXL hXl hX2
              go_wp2_with (fail)
              refine HP.out.mono ?_
              rintro e w3 ⟨rfl, hA3, hG3⟩
              have ES := Lib.hid (hS2.out.turn hG3 hA3 hb)
              have ET := hT2
              have EL := hXm
              clear hA3 hG3 HP hS2 hO2 hX hT2 hXm hT hTm HS2 HX2 HSTO y1
              have hlc := len_calls ES.out.ah
              rw [EL.out] at hlc
              have HLC := Lib.hid hlc
              clear hlc
              go_wp2_with (fail)
              refine HLC.out.mono ?_
              rintro e w' ⟨rfl, rfl⟩
              clear HLC
              go_wp2_with (fail)
              go_loop [15] (fun i => ∃ a3 : Nat, i = .int .i64 a3 ∧ a3 ≤ 64) (fun i => 64 - (intOf i).toNat)
              case atStart => exact ⟨0, rfl, by omega⟩
              case round =>
                obtain ⟨a3, rfl, ha3⟩ := hrel
                by_cases h3 : a3 < 64
                · obtain ⟨z0, z1⟩ := ES.out.bool (a := a3) (by have := ET.out.il; omega)
                  obtain ⟨z2, z3⟩ := ES.out.word (a := a3) (by have := ET.out.wl; omega)
                  have hld := load_calls ES.out.ah (a3 : Int) d (by omega) (by omega)
                  rw [ET.out.load h3] at hld
                  have hai3 : (a3 : Int) < 64 := by omega
                  clear z1 z3
                  generalize wd2.getD a3 0 = ww at *
                  cases hbb : is2.getD a3 false with
                  | true =>
                    rw [hbb] at z0 hld
                    rw [if_pos rfl] at hld
                    have HLD := Lib.hid hld
                    clear hbb hld
                    go_wp2_with (fail)
                    refine HLD.out.mono ?_
                    rintro e w' ⟨rfl, rfl⟩
                    go_wp2_with (fail)
                    go_round
                    case rel => exact ⟨a3 + 1, by go_num, by omega⟩
                    case measure => simp [intOf]; omega
                  | false =>
                    rw [hbb] at z0 hld
                    rw [if_neg (by decide)] at hld
                    have HLD := Lib.hid hld
                    clear hbb hld
                    go_wp2_with (fail)
                    refine HLD.out.mono ?_
                    rintro e w' ⟨rfl, rfl⟩
                    go_wp2_with (fail)
                    go_round
                    case rel => exact ⟨a3 + 1, by go_num, by omega⟩
                    case measure => simp [intOf]; omega
                · have h64 : a3 = 64 := by omega
                  subst h64
                  go_wp2_with (fail)
                  go_roundw
                  case rel => exact ⟨k + 1, m2, _, _, _, rfl, by go_num, by omega, by omega, EL, ET, ES⟩
                  case measure => simp [intOf]; omega
        · have hna : ¬ (act = 0) := ha
          obtain ⟨a, ha64, hma, hmb, hmc, hmd⟩ := mod_letter pos 64 (by decide)
          have hma : (pos.tmod 64 + 64).tmod 64 = (a : Int) := hma
          have hmc2 : -64 < pos.tmod 64 := hmc
          have hmd2 : pos.tmod 64 < 64 := hmd
          have hw2 : IntKind.i64.wrap (pos.tmod 64 + 64) = pos.tmod 64 + 64 := by rw [IntKind.wrap_i64]; omega
          have hai : (a : Int) < 64 := by omega
          clear hmb hmc hmd hmc2 hmd2
          go_upto_region 26 with (fail)
          rw [← hV2]
          clear hV2 x0 x1 x2 x3 hS
          generalize wr.heap.size = gx at *
          have y2 : V2.cell? ⟨gx, 2, none⟩ = some (.int .i64 pos) := by rw [cell_of_row V2 _ 2 _ _ _ HX2.out]; rfl
          have il := hT.out.il
          obtain ⟨bb, hbb⟩ : ∃ bb, is.getD a false = bb := ⟨_, rfl⟩
          have HD := Lib.hid (show doneE T (a : Int) = (if bb then 0 else 3) by unfold doneE; rw [hT.out.has ha64, hbb])
          obtain ⟨hT3, hT3l⟩ := hT.out.del ha64
          rw [hTm.out, hbb] at hT3l
          have ET := Lib.hid hT3
          have ETL := Lib.hid hT3l
          have HBB := Lib.hid hbb
          have HIL := Lib.hid (show a < is.length by omega)
          clear il hT3 hT3l hbb
          go_wp2_with (fail)
          cases bb with
          | true =>
            replace HD := Lib.hid (show doneE T (a : Int) = 0 from HD.out)
            refine wp_region_phase (T := (fun _ _ => True)) (Vals [.pointer (some ⟨g, 0, none⟩), .int .i64 (a : Nat), .int .i64 0, .bool true, .int .i64 (a : Nat), .pointer (some ⟨g6, a, none⟩), .bool true, .bool false]) (PH1 2 (fun x => Lst w x g b g6 g7 T is wd) (fun x => Lst w x g b g6 g7 (delT T (a : Int)) is wd)) (by kernel_rfl) (by kernel_rfl) (by kernel_rfl) (fun i v w w2 h _ => h) (PH1.start (HS2.out.below (Below.refl _ _).drew)) ?steps ?fin
            case steps =>
              refine ⟨?s0, ?s1, ?s2, ?s3, ?s4, ?s5, ?s6, ?s7, trivial⟩
              case s0 =>
                intro L ac u hA hp hl hd
                have q0 := ev_of (show ac.eval (.tmp 5) = .pointer (some ⟨g, 0, none⟩) from hA.eval 5 rfl)
                refine ⟨rfl, StepOK.run (.pointer (some ⟨g, 0, none⟩)) ?_ ⟨Vals.mk rfl, hp.keep (i := 0) (by decide) id id⟩ trivial⟩
                unfold execOp
                simp [go_sem, q0]
              case s1 =>
                intro L ac u hA hp hl hd
                have q0 := ev_of (show ac.eval (.tmp 14) = .int .i64 (a : Nat) from hA.eval 14 rfl)
                refine ⟨rfl, StepOK.run (.int .i64 (a : Nat)) ?_ ⟨Vals.mk rfl, hp.keep (i := 1) (by decide) id id⟩ trivial⟩
                unfold execOp
                simp [go_sem, q0]
              case s2 =>
                intro L ac u hA hp hl hd
                have r0 := depP hd 0 88 rfl rfl
                have q0 := ev_of (show ac.eval (.tmp 88) = .pointer (some ⟨g, 0, none⟩) from r0)
                have r1 := depP hd 1 89 rfl rfl
                have q1 := ev_of (show ac.eval (.tmp 89) = .int .i64 (a : Nat) from r1)
                refine ⟨rfl, StepOK.call 13 #[.pointer (some ⟨g, 0, none⟩), .int .i64 (a : Nat)] ?_ ((done_calls (hp.1 hl).ah (a : Int) (by omega) (by omega)).mono ?_)⟩
                · unfold execOp
                  simp [go_sem, q0, q1]
                · rintro e w2 ⟨rfl, hA2, hG2⟩
                  rw [HD.out]
                  exact ⟨_, rfl, ⟨Vals.mk rfl, PH1.turn ((hp.1 hl).turn hG2 hA2 hb)⟩, trivial⟩
              case s3 =>
                intro L ac u hA hp hl hd
                have r0 := depP hd 2 90 rfl rfl
                have q0 := ev_of (show ac.eval (.tmp 90) = .int .i64 0 from r0)
                refine ⟨rfl, StepOK.run (.bool true) ?_ ⟨Vals.mk rfl, hp.keep (i := 3) (by decide) id id⟩ trivial⟩
                unfold execOp
                simp [go_sem, q0]
              case s4 =>
                intro L ac u hA hp hl hd
                have q0 := ev_of (show ac.eval (.tmp 14) = .int .i64 (a : Nat) from hA.eval 14 rfl)
                refine ⟨rfl, StepOK.run (.int .i64 (a : Nat)) ?_ ⟨Vals.mk rfl, hp.keep (i := 4) (by decide) id id⟩ trivial⟩
                unfold execOp
                simp [go_sem, q0]
              case s5 =>
                intro L ac u hA hp hl hd
                have q0 := ev_of (show ac.eval (.tmp 6) = .pointer (some ⟨g6, 0, none⟩) from hA.eval 6 rfl)
                have r1 := depP hd 4 92 rfl rfl
                have q1 := ev_of (show ac.eval (.tmp 92) = .int .i64 (a : Nat) from r1)
                refine ⟨rfl, StepOK.run (.pointer (some ⟨g6, a, none⟩)) ?_ ⟨Vals.mk rfl, hp.keep (i := 5) (by decide) id id⟩ trivial⟩
                unfold execOp
                simp [go_sem, q0, q1, hai]
              case s6 =>
                intro L ac u hA hp hl hd
                have r0 := depP hd 5 93 rfl rfl
                have q0 := ev_of (show ac.eval (.tmp 93) = .pointer (some ⟨g6, a, none⟩) from r0)
                have y0 := (hp.any (C := fun x => x.cell? ⟨g6, a, none⟩ = some (.bool true)) (fun h => by rw [(h.bool HIL.out).1, HBB.out]) (fun h => by rw [(h.bool HIL.out).1, HBB.out]))
                refine ⟨rfl, StepOK.run (.bool true) ?_ ⟨Vals.mk rfl, hp.keep (i := 6) (by decide) id id⟩ trivial⟩
                unfold execOp
                simp [go_sem, q0, y0]
              case s7 =>
                intro L ac u hA hp hl hd
                have r0 := depP hd 3 91 rfl rfl
                have q0 := ev_of (show ac.eval (.tmp 91) = .bool true from r0)
                have r1 := depP hd 6 94 rfl rfl
                have q1 := ev_of (show ac.eval (.tmp 94) = .bool true from r1)
                refine ⟨rfl, StepOK.run (.bool false) ?_ ⟨Vals.mk rfl, hp.keep (i := 7) (by decide) id id⟩ trivial⟩
                unfold execOp
                simp [go_sem, q0, q1]
            case fin =>
              intro L vs u hp hv hall
              have e0 : vs 0 = .pointer (some ⟨g, 0, none⟩) := hv 0 (by decide)
              have e1 : vs 1 = .int .i64 (a : Nat) := hv 1 (by decide)
              have e2 : vs 2 = .int .i64 0 := hv 2 (by decide)
              have e3 : vs 3 = .bool true := hv 3 (by decide)
              have e4 : vs 4 = .int .i64 (a : Nat) := hv 4 (by decide)
              have e5 : vs 5 = .pointer (some ⟨g6, a, none⟩) := hv 5 (by decide)
              have e6 : vs 6 = .bool true := hv 6 (by decide)
              have e7 : vs 7 = .bool false := hv 7 (by decide)
              simp only [putsFrom, Act.put, List.setIfInBounds_toArray, List.set_cons_succ, List.set_cons_zero, Nat.reduceAdd, e0, e1, e2, e3, e4, e5, e6, e7]
              clear e0 e1 e2 e3 e4 e5 e6 e7 hv
              have hS9 : Lst w u g b g6 g7 (delT T (a : Int)) is wd := hp.2 (hall 2 (by decide))
              have HS9 := Lib.hid hS9
              obtain ⟨z0, z1⟩ := hS9.bool (a := a) HIL.out
              rw [HBB.out] at z0
              have ES := Lib.hid (hS9.setI h6 a false)
              clear hS9 hp hall
              have hm1 : 1 ≤ m := by have := ETL.out; rw [if_pos rfl] at this; omega
              obtain ⟨m1, rfl⟩ : ∃ m1, m = m1 + 1 := ⟨m - 1, by omega⟩
              have EL := Lib.hid (show (delT T (a : Int)).length = m1 by have := ETL.out; rw [if_pos rfl] at this; omega)
              clear ETL HD hT hTm HSTO HX2 y2 hma hw2
              go_upto_region 32 with (fail)
              obtain ⟨V3, hV3⟩ : ∃ V3, V3 = u.setCell ⟨g6, a, none⟩ (.bool false) := ⟨_, rfl⟩
              rw [← hV3] at ES ⊢
              clear hV3 z0 z1 HS9
              have hlc := len_calls ES.out.ah
              rw [EL.out] at hlc
              have HLC := Lib.hid hlc
              clear hlc
              go_wp2_with (fail)
              refine HLC.out.mono ?_
              rintro e w' ⟨rfl, rfl⟩
              clear HLC
              go_wp2_with (fail)
              go_loop [15] (fun i => ∃ a3 : Nat, i = .int .i64 a3 ∧ a3 ≤ 64) (fun i => 64 - (intOf i).toNat)
              case atStart => exact ⟨0, rfl, by omega⟩
              case round =>
                obtain ⟨a3, rfl, ha3⟩ := hrel
                by_cases h3 : a3 < 64
                · obtain ⟨z0, z1⟩ := ES.out.bool (a := a3) (by have := ET.out.il; omega)
                  obtain ⟨z2, z3⟩ := ES.out.word (a := a3) (by have := ET.out.wl; omega)
                  have hld := load_calls ES.out.ah (a3 : Int) d (by omega) (by omega)
                  rw [ET.out.load h3] at hld
                  have hai3 : (a3 : Int) < 64 := by omega
                  clear z1 z3
                  generalize wd.getD a3 0 = ww at *
                  cases hbb : (is.set a false).getD a3 false with
                  | true =>
                    rw [hbb] at z0 hld
                    rw [if_pos rfl] at hld
                    have HLD := Lib.hid hld
                    clear hbb hld
                    go_wp2_with (fail)
                    refine HLD.out.mono ?_
                    rintro e w' ⟨rfl, rfl⟩
                    go_wp2_with (fail)
                    go_round
                    case rel => exact ⟨a3 + 1, by go_num, by omega⟩
                    case measure => simp [intOf]; omega
                  | false =>
                    rw [hbb] at z0 hld
                    rw [if_neg (by decide)] at hld
                    have HLD := Lib.hid hld
                    clear hbb hld
                    go_wp2_with (fail)
                    refine HLD.out.mono ?_
                    rintro e w' ⟨rfl, rfl⟩
                    go_wp2_with (fail)
                    go_round
                    case rel => exact ⟨a3 + 1, by go_num, by omega⟩
                    case measure => simp [intOf]; omega
                · have h64 : a3 = 64 := by omega
                  subst h64
                  go_wp2_with (fail)
                  go_roundw
                  case rel => exact ⟨k + 1, m1, _, _, _, rfl, by go_num, by omega, by omega, EL, ET, ES⟩
                  case measure => simp [intOf]; omega
          | false =>
            replace HD := Lib.hid (show doneE T (a : Int) = 3 from HD.out)
            refine wp_region_phase (T := (fun _ _ => True)) (Vals [.pointer (some ⟨g, 0, none⟩), .int .i64 (a : Nat), .int .i64 3, .bool false, .int .i64 (a : Nat), .pointer (some ⟨g6, a, none⟩), .bool false, .bool false]) (PH1 2 (fun x => Lst w x g b g6 g7 T is wd) (fun x => Lst w x g b g6 g7 (delT T (a : Int)) is wd)) (by kernel_rfl) (by kernel_rfl) (by kernel_rfl) (fun i v w w2 h _ => h) (PH1.start (HS2.out.below (Below.refl _ _).drew)) ?steps ?fin
            case steps =>
              refine ⟨?s0, ?s1, ?s2, ?s3, ?s4, ?s5, ?s6, ?s7, trivial⟩
              case s0 =>
                intro L ac u hA hp hl hd
                have q0 := ev_of (show ac.eval (.tmp 5) = .pointer (some ⟨g, 0, none⟩) from hA.eval 5 rfl)
                refine ⟨rfl, StepOK.run (.pointer (some ⟨g, 0, none⟩)) ?_ ⟨Vals.mk rfl, hp.keep (i := 0) (by decide) id id⟩ trivial⟩
                unfold execOp
                simp [go_sem, q0]
              case s1 =>
                intro L ac u hA hp hl hd
                have q0 := ev_of (show ac.eval (.tmp 14) = .int .i64 (a : Nat) from hA.eval 14 rfl)
                refine ⟨rfl, StepOK.run (.int .i64 (a : Nat)) ?_ ⟨Vals.mk rfl, hp.keep (i := 1) (by decide) id id⟩ trivial⟩
                unfold execOp
                simp [go_sem, q0]
              case s2 =>
                intro L ac u hA hp hl hd
                have r0 := depP hd 0 88 rfl rfl
                have q0 := ev_of (show ac.eval (.tmp 88) = .pointer (some ⟨g, 0, none⟩) from r0)
                have r1 := depP hd 1 89 rfl rfl
                have q1 := ev_of (show ac.eval (.tmp 89) = .int .i64 (a : Nat) from r1)
                refine ⟨rfl, StepOK.call 13 #[.pointer (some ⟨g, 0, none⟩), .int .i64 (a : Nat)] ?_ ((done_calls (hp.1 hl).ah (a : Int) (by omega) (by omega)).mono ?_)⟩
                · unfold execOp
                  simp [go_sem, q0, q1]
                · rintro e w2 ⟨rfl, hA2, hG2⟩
                  rw [HD.out]
                  exact ⟨_, rfl, ⟨Vals.mk rfl, PH1.turn ((hp.1 hl).turn hG2 hA2 hb)⟩, trivial⟩
              case s3 =>
                intro L ac u hA hp hl hd
                have r0 := depP hd 2 90 rfl rfl
                have q0 := ev_of (show ac.eval (.tmp 90) = .int .i64 3 from r0)
                refine ⟨rfl, StepOK.run (.bool false) ?_ ⟨Vals.mk rfl, hp.keep (i := 3) (by decide) id id⟩ trivial⟩
                unfold execOp
                simp [go_sem, q0]
              case s4 =>
                intro L ac u hA hp hl hd
                have q0 := ev_of (show ac.eval (.tmp 14) = .int .i64 (a : Nat) from hA.eval 14 rfl)
                refine ⟨rfl, StepOK.run (.int .i64 (a : Nat)) ?_ ⟨Vals.mk rfl, hp.keep (i := 4) (by decide) id id⟩ trivial⟩
                unfold execOp
                simp [go_sem, q0]
              case s5 =>
                intro L ac u hA hp hl hd
                have q0 := ev_of (show ac.eval (.tmp 6) = .pointer (some ⟨g6, 0, none⟩) from hA.eval 6 rfl)
                have r1 := depP hd 4 92 rfl rfl
                have q1 := ev_of (show ac.eval (.tmp 92) = .int .i64 (a : Nat) from r1)
                refine ⟨rfl, StepOK.run (.pointer (some ⟨g6, a, none⟩)) ?_ ⟨Vals.mk rfl, hp.keep (i := 5) (by decide) id id⟩ trivial⟩
                unfold execOp
                simp [go_sem, q0, q1, hai]
              case s6 =>
                intro L ac u hA hp hl hd
                have r0 := depP hd 5 93 rfl rfl
                have q0 := ev_of (show ac.eval (.tmp 93) = .pointer (some ⟨g6, a, none⟩) from r0)
                have y0 := (hp.any (C := fun x => x.cell? ⟨g6, a, none⟩ = some (.bool false)) (fun h => by rw [(h.bool HIL.out).1, HBB.out]) (fun h => by rw [(h.bool HIL.out).1, HBB.out]))
                refine ⟨rfl, StepOK.run (.bool false) ?_ ⟨Vals.mk rfl, hp.keep (i := 6) (by decide) id id⟩ trivial⟩
                unfold execOp
                simp [go_sem, q0, y0]
              case s7 =>
                intro L ac u hA hp hl hd
                have r0 := depP hd 3 91 rfl rfl
                have q0 := ev_of (show ac.eval (.tmp 91) = .bool false from r0)
                have r1 := depP hd 6 94 rfl rfl
                have q1 := ev_of (show ac.eval (.tmp 94) = .bool false from r1)
                refine ⟨rfl, StepOK.run (.bool false) ?_ ⟨Vals.mk rfl, hp.keep (i := 7) (by decide) id id⟩ trivial⟩
                unfold execOp
                simp [go_sem, q0, q1]
            case fin =>
              intro L vs u hp hv hall
              have e0 : vs 0 = .pointer (some ⟨g, 0, none⟩) := hv 0 (by decide)
              have e1 : vs 1 = .int .i64 (a : Nat) := hv 1 (by decide)
              have e2 : vs 2 = .int .i64 3 := hv 2 (by decide)
              have e3 : vs 3 = .bool false := hv 3 (by decide)
              have e4 : vs 4 = .int .i64 (a : Nat) := hv 4 (by decide)
              have e5 : vs 5 = .pointer (some ⟨g6, a, none⟩) := hv 5 (by decide)
              have e6 : vs 6 = .bool false := hv 6 (by decide)
              have e7 : vs 7 = .bool false := hv 7 (by decide)
              simp only [putsFrom, Act.put, List.setIfInBounds_toArray, List.set_cons_succ, List.set_cons_zero, Nat.reduceAdd, e0, e1, e2, e3, e4, e5, e6, e7]
              clear e0 e1 e2 e3 e4 e5 e6 e7 hv
              have hS9 : Lst w u g b g6 g7 (delT T (a : Int)) is wd := hp.2 (hall 2 (by decide))
              have HS9 := Lib.hid hS9
              obtain ⟨z0, z1⟩ := hS9.bool (a := a) HIL.out
              rw [HBB.out] at z0
              have ES := Lib.hid (hS9.setI h6 a false)
              clear hS9 hp hall
              have EL := Lib.hid (show (delT T (a : Int)).length = m by have := ETL.out; rw [if_neg (by decide)] at this; omega)
              clear ETL HD hT hTm HSTO HX2 y2 hma hw2
              go_upto_region 32 with (fail)
              obtain ⟨V3, hV3⟩ : ∃ V3, V3 = u.setCell ⟨g6, a, none⟩ (.bool false) := ⟨_, rfl⟩
              rw [← hV3] at ES ⊢
              clear hV3 z0 z1 HS9
              have hlc := len_calls ES.out.ah
              rw [EL.out] at hlc
              have HLC := Lib.hid hlc
              clear hlc
              go_wp2_with (fail)
              refine HLC.out.mono ?_
              rintro e w' ⟨rfl, rfl⟩
              clear HLC
              go_wp2_with (fail)
              go_loop [15] (fun i => ∃ a3 : Nat, i = .int .i64 a3 ∧ a3 ≤ 64) (fun i => 64 - (intOf i).toNat)
              case atStart => exact ⟨0, rfl, by omega⟩
              case round =>
                obtain ⟨a3, rfl, ha3⟩ := hrel
                by_cases h3 : a3 < 64
                · obtain ⟨z0, z1⟩ := ES.out.bool (a := a3) (by have := ET.out.il; omega)
                  obtain ⟨z2, z3⟩ := ES.out.word (a := a3) (by have := ET.out.wl; omega)
                  have hld := load_calls ES.out.ah (a3 : Int) d (by omega) (by omega)
                  rw [ET.out.load h3] at hld
                  have hai3 : (a3 : Int) < 64 := by omega
                  clear z1 z3
                  generalize wd.getD a3 0 = ww at *
                  cases hbb : (is.set a false).getD a3 false with
                  | true =>
                    rw [hbb] at z0 hld
                    rw [if_pos rfl] at hld
                    have HLD := Lib.hid hld
                    clear hbb hld
                    go_wp2_with (fail)
                    refine HLD.out.mono ?_
                    rintro e w' ⟨rfl, rfl⟩
                    go_wp2_with (fail)
                    go_round
                    case rel => exact ⟨a3 + 1, by go_num, by omega⟩
                    case measure => simp [intOf]; omega
                  | false =>
                    rw [hbb] at z0 hld
                    rw [if_neg (by decide)] at hld
                    have HLD := Lib.hid hld
                    clear hbb hld
                    go_wp2_with (fail)
                    refine HLD.out.mono ?_
                    rintro e w' ⟨rfl, rfl⟩
                    go_wp2_with (fail)
                    go_round
                    case rel => exact ⟨a3 + 1, by go_num, by omega⟩
                    case measure => simp [intOf]; omega
                · have h64 : a3 = 64 := by omega
                  subst h64
                  go_wp2_with (fail)
                  go_roundw
                  case rel => exact ⟨k + 1, m, _, _, _, rfl, by go_num, by omega, by omega, EL, ET, ES⟩
                  case measure => simp [intOf]; omega
      · obtain rfl : N = k := by omega
        go_wp2_with (fail)
        refine (alive_calls _).mono ?_
        rintro e w' ⟨rfl, hb⟩
        replace hb := Lib.hid hb
        go_wp2_with (fail)
        go_ret
        exact ⟨rfl, hS.out.on.trans (hb.out.mono hS.out.on.size)⟩
end Go.Proofs.Ytphjppnkackmmaa
