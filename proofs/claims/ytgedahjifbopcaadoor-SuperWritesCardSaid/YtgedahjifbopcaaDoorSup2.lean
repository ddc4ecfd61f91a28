/- What compose hands back: the words of a superblock. -/
import Derived.Test.YtgedahjifbopcaaDoorSteps
import Derived.Test.YtgedahjifbopcaaDoorSupMath
import Derived.Test.YtgedahjifbopcaaDoorSup1
import Derived.Test.YtgedahjifbopcaaDoorPackS
import Derived.Test.YtgedahjifbopcaaDoorSum6
namespace Go.Proofs.YtgedahjifbopcaaDoor
open Go.RowKit SumMath WordMath
/-- High's or Low's, as a number. -/
def hN (b : Bool) : Nat := if b then 1 else 0
/-- It hands back a row of its own. -/
def Gives (l : List Nat) (w : World) (e : Ending) (w' : World) : Prop := ∃ A c, e = .returned (.slice A l.length c) ∧ Row w' A l ∧ Fresh w.heap.size A ∧ Below w.heap.size w w' ∧ l.length ≤ c
/-- The row is a block of its own. -/
def GivesOwn (l : List Nat) (w : World) (e : Ending) (w' : World) : Prop := ∃ A c, e = .returned (.slice A l.length c) ∧ Row w' A l ∧ Fresh w.heap.size A ∧ Below w.heap.size w w' ∧ l.length ≤ c ∧ ∃ g, A = some ⟨g, 0, none⟩ ∧ Blk 42 w' g l
theorem pack_title_calls (w : World) : Calls Tryd.prog 25 #[.string titleS] w (GivesRow [titleW] w) := by
  have h := pack_calls titleS w (by decide)
  rw [pack_title] at h
  exact h
/-- Words 0 to 6 with the first k fields alone, as a block. -/
def supO (P I B h k : Nat) : Obj := .cells (wv (supTo P I B h k)).toArray 42 (0, 0)
/-- What lies while the fields are put. -/
structure Cmp (w wr : World) (mb : Nat) (P I B h k : Nat) : Prop where
  geom : wr.heap[w.heap.size]? = some (.cells #[.int .i64 (P : Nat), .int .i64 (I : Nat), .int .i64 (B : Nat)] 23)
  row : Blk 42 wr (w.heap.size + 1) (supTo P I B h k)
  mark : wr.heap[mb]? = some (.cells #[.int .i64 (h : Nat)] 3)
  below : Below w.heap.size w wr
  mb : w.heap.size + 2 ≤ mb
theorem Cmp.later {w wr w' : World} {mb P I B h k : Nat} (hC : Cmp w wr mb P I B h k) (hb : Below wr.heap.size wr w') : Cmp w w' mb P I B h k :=
  ⟨(hb.block _ (lt_of_cells hC.geom)).trans hC.geom, hC.row.below hb hC.row.lt, (hb.block _ (lt_of_cells hC.mark)).trans hC.mark, hC.below.trans (hb.mono hC.below.size), hC.mb⟩
/-- Where field k's number stands. -/
def ptrW (gb mb k : Nat) : Addr := if k = 3 then ⟨mb, 0, none⟩ else ⟨gb, k, none⟩
theorem Cel.place {wr : World} {g gb mb : Nat} (h : Cel wr (some ⟨g, 0, none⟩) (plc gb mb)) (k : Nat) (hk : k < 4) :
    wr.cell? ⟨g, k * 3, none⟩ = some (.int .i64 (atW k : Nat)) ∧ wr.cell? ⟨g, k * 3 + 1, none⟩ = some (.int .i64 (wdW k : Nat)) ∧ wr.cell? ⟨g, k * 3 + 2, none⟩ = some (.pointer (some (ptrW gb mb k))) := by
  obtain ⟨ad, e, _, hc⟩ := h (by simp [plc])
  injection e with e
  subst e
  have hc2 : ∀ j u, (plc gb mb)[j]? = some u → wr.cell? ⟨g, j, none⟩ = some u := fun j u hj => by rw [← add_zero_block]; exact hc j u hj
  rcases (by omega : k = 0 ∨ k = 1 ∨ k = 2 ∨ k = 3) with rfl | rfl | rfl | rfl
  all_goals exact ⟨hc2 _ _ rfl, hc2 _ _ rfl, hc2 _ _ rfl⟩
/-- Number k of those. -/
theorem Cmp.num {w wr : World} {mb P I B h j : Nat} (hC : Cmp w wr mb P I B h j) (k : Nat) (hk : k < 4) : wr.cell? (ptrW w.heap.size mb k) = some (.int .i64 (numW P I B h k : Nat)) := by
  obtain ⟨g0, g1, g2⟩ := three_cells hC.geom
  have m0 := one_cell hC.mark
  rcases (by omega : k = 0 ∨ k = 1 ∨ k = 2 ∨ k = 3) with rfl | rfl | rfl | rfl
  · exact g0
  · exact g1
  · exact g2
  · exact m0
theorem Cmp.next {w wr u : World} {mb P I B h k : Nat} (hC : Cmp w wr mb P I B h k) (ho : Only (fun i => i = w.heap.size + 1) wr u) (h1 : u.heap[w.heap.size + 1]? = some (supO P I B h (k + 1))) : Cmp w u mb P I B h (k + 1) := by
  have hmb := hC.mb
  refine ⟨(ho.block _ (lt_of_cells hC.geom) (by omega)).trans hC.geom, h1, (ho.block _ (lt_of_cells hC.mark) (by omega)).trans hC.mark, ?_, hC.mb⟩
  have hb := hC.below
  exact ⟨ho.os.trans hb.os, ho.tape.trans hb.tape, ho.output.trans hb.output, Nat.le_trans hb.size ho.size, fun i hi => (ho.block i (Nat.lt_of_lt_of_le hi hb.size) (by omega)).trans (hb.block i hi)⟩
theorem num_lt64 {P I B h : Nat} (hf : Fits P I B h) (k : Nat) : numW P I B h k < 18446744073709551616 := by
  obtain ⟨h1, h2, h3, h4⟩ := hf
  unfold numW
  split
  · omega
  · split
    · omega
    · split <;> omega
theorem On.alloc (w : World) (o : Obj) : On w (w.alloc o) := (Below.refl _ _).alloc (Nat.le_refl _) _
theorem putk_calls {P I B h k : Nat} (hf : Fits P I B h) (hk : k < 4) (w : World) :
    Calls Tryd.prog 27 #[.int .u64 (accW P I B h k : Nat), .int .i64 (atW k : Nat), .int .i64 (wdW k : Nat), .int .u64 (numW P I B h k : Nat)] w (Q (.tuple #[.int .u64 (accW P I B h (k + 1) : Nat), .int .i64 0]) w) := by
  obtain ⟨h1, h2, h3⟩ := acc_step hf hk
  have ha : atW k ≤ 48 := by unfold atW; omega
  have hd : 1 ≤ wdW k ∧ wdW k ≤ 64 - atW k := by
    rcases (by omega : k = 0 ∨ k = 1 ∨ k = 2 ∨ k = 3) with rfl | rfl | rfl | rfl <;> decide
  have hp : isPut (atW k : Nat) (wdW k : Nat) (numW P I B h k : Nat) := ⟨⟨by omega, by omega, by omega⟩, by simpa using h2⟩
  have h := put_calls (accW P I B h k : Nat) (atW k : Nat) (wdW k : Nat) (numW P I B h k : Nat) w (by omega) (by omega) (by omega) (by omega)
  rw [putV_yes hp, putE_yes hp] at h
  simp only [Int.toNat_natCast] at h
  rw [h1] at h
  exact h
def titledO : Obj := .cells (wv [titleW, 0, 0, 0, 0, 0, 0]).toArray 42 (0, 0)
set_option maxRecDepth 100000 in
set_option maxHeartbeats 4000000 in
theorem compose_own (P I B : Nat) (hi : Bool) (w : World) (hf : Fits P I B (hN hi)) (hT : TabAt w) :
    Calls Tryd.prog 16 #[gv P I B, .bool hi] w (GivesOwn (superL P I B (hN hi)) w) := by
  have hmk : ∀ w : World, (Instr.makeSlice 24 (.int .i64 7) (.int .i64 7)).run Tryd.prog w = .ok (.slice (some ⟨w.heap.size, 0, none⟩) 7 7) (w.alloc (.cells (madeCells #[.int .u64 0] 7) 42)) := run_make_row' (P := Tryd.prog) 24 42 (.int .u64 0) 8 Tryd.underlying24 u64_info rfl .i64 .i64 7 (by decide) (by decide)
  have HT := Lib.hid hT
  have hB1 := Blk.new (w.alloc (.cells #[.int .i64 (P : Nat), .int .i64 (I : Nat), .int .i64 (B : Nat)] 23)) 42 7
  rw [World.size_alloc] at hB1
  have hG1 : ((w.alloc (.cells #[.int .i64 (P : Nat), .int .i64 (I : Nat), .int .i64 (B : Nat)] 23)).alloc (.cells (madeCells #[.int .u64 0] 7) 42)).heap[w.heap.size]? = some (.cells #[.int .i64 (P : Nat), .int .i64 (I : Nat), .int .i64 (B : Nat)] 23) :=
    (Below.heap_alloc _ _ _ (by simp)).trans (heap_alloc_new w _)
  have hb1 : Below w.heap.size w ((w.alloc (.cells #[.int .i64 (P : Nat), .int .i64 (I : Nat), .int .i64 (B : Nat)] 23)).alloc (.cells (madeCells #[.int .u64 0] 7) 42)) := ((Below.refl _ _).alloc (Nat.le_refl _) _).alloc (by simp) _
  have H1 := Lib.hid hB1
  have H2 := Lib.hid hG1
  have H3 := Lib.hid hb1
  clear hT hB1 hG1 hb1
  go_enter Tryd.func16, Tryd.ntmps16
  go_wp2_with (fail)
  refine wp_region_rel2 (E := fun k => decide (k ≤ 2)) (s := 3) (T0 := On) (T := WrT (w.heap.size + 1) titledO) (R := sps (w.heap.size + 1) titledO [.val (.slice (some ⟨w.heap.size + 1, 0, none⟩) 7 7), .val (.slice (some ⟨w.heap.size + 1, 0, none⟩) 7 7), .row [titleW], .done])
    (by kernel_rfl) (by kernel_rfl) On.refl On.trans WrT.on WrT.trans (fun i v w w' h k => Sp2.stable h k) (sps_un (by kernel_rfl)) (On.drawn _) (by kernel_rfl) ?steps ?rest
  case steps =>
    refine ⟨?s0, ?s1, ?s2, ?s3, trivial⟩
    case s0 => exact fun a u hT h0 hA hd => .inl ⟨rfl, StepOK.move (.tmp 5) rfl (hA.eval 5 rfl) (On.refl _)⟩
    case s1 => exact fun a u hT h0 hA hd => .inl ⟨rfl, stp_slice0 (On.refl _) (.tmp 10) rfl (w.heap.size + 1) 7 7 (dep hd 0 10 rfl rfl) (by decide) (by decide) rfl⟩
    case s2 =>
      intro a u hT h0 hA hd
      have hz := hT.only.size
      rw [World.size_alloc, World.size_alloc] at hz
      refine .inl ⟨rfl, StepOK.call 25 #[.string titleS] ?_ ((pack_title_calls u).mono ?_)⟩
      · unfold execOp
        simp [go_sem, titleS]
      · rintro e u' ⟨A, c, rfl, hr, hfr, hb⟩
        refine ⟨_, rfl, ⟨A, c, rfl, hr, fun ad e => ?_⟩, hb⟩
        obtain ⟨g, rfl, hg⟩ := hfr ad e
        show g ≠ _
        omega
    case s3 =>
      intro a u hT h0 hA hd
      have hB := H1.out.below (h0 rfl) (by simp)
      obtain ⟨A, c, e2, hr, _⟩ := (show (Sp2.row [titleW]).ok (w.heap.size + 1) titledO (a.eval (.tmp 12)) u from dep hd 2 12 rfl rfl)
      have hfin := setRow_heap u (w.heap.size + 1) _ (wv [titleW, 0, 0, 0, 0, 0, 0]).toArray 42 (0, 0) hB
      exact .inl ⟨rfl, stp_copy (.tmp 11) (.tmp 12) rfl (w.heap.size + 1) 7 [titleW] (List.replicate 7 0) A c (dep hd 1 11 rfl rfl) e2 hr (by decide) (by decide) hB ⟨Only.setRow (F := fun k => k = w.heap.size + 1) (Only.refl _ _) rfl _, fun _ => hfin⟩ hfin⟩
  case rest =>
    intro vs u hT hR
    have h3 : u.heap[w.heap.size + 1]? = some titledO := hR 3 (by decide)
    have hG : u.heap[w.heap.size]? = some (.cells #[.int .i64 (P : Nat), .int .i64 (I : Nat), .int .i64 (B : Nat)] 23) := (hT.only.block _ (by simp <;> omega) (by simp)).trans H2.out
    have hbu : Below w.heap.size w u := ⟨hT.only.os.trans H3.out.os, hT.only.tape.trans H3.out.tape, hT.only.output.trans H3.out.output, by have := hT.only.size; simp at this; omega, fun k hk => (hT.only.block k (by simp; omega) (by omega)).trans (H3.out.block k hk)⟩
    have hzu : w.heap.size + 2 ≤ u.heap.size := by have := hT.only.size; simpa using this
    simp only [putsFrom, Act.put, List.setIfInBounds_toArray, List.set_cons_succ, List.set_cons_zero]
    generalize vs 0 = z0
    generalize vs 1 = z1
    generalize vs 2 = z2
    generalize vs 3 = z3
    clear hR hT hmk H1 H2 H3
    have hlg : w.heap.size < u.heap.size := by omega
    have hcase : ∃ h : Nat, hN hi = h ∧ h < 2 := ⟨_, rfl, by cases hi <;> decide⟩
    obtain ⟨h, hh, hh2⟩ := hcase
    have hm : Hid ((u.alloc (.cells #[.int .i64 (h : Nat)] 3)).heap[u.heap.size]? = some (.cells #[.int .i64 (h : Nat)] 3)) := Lib.hid (heap_alloc_new _ _)
    have hC : Hid (Cmp w (u.alloc (.cells #[.int .i64 (h : Nat)] 3)) u.heap.size P I B h 0) := Lib.hid ⟨(Below.heap_alloc _ _ _ hlg).trans hG, (Below.heap_alloc _ _ _ (by omega)).trans h3, hm.out, hbu.alloc hbu.size _, hzu⟩
    rw [hh] at hf ⊢
    have hf := Lib.hid hf
    have hh := Lib.hid hh
    clear h3 hG hbu hm
    cases hi
    all_goals
      first
        | (have hv : Hid (h = 0) := Lib.hid hh.out.symm)
        | (have hv : Hid (h = 1) := Lib.hid hh.out.symm)
      clear hh hh2
      rw [hv.out] at hC
      go_wp2_with (fail)
      refine (places_calls w.heap.size u.heap.size _).mono ?_
      rintro e w5 ⟨g, c, rfl, hcel, hg, hgl, hb5⟩
      have hC5 : Cmp w w5 u.heap.size P I B h 0 := by rw [hv.out]; exact Cmp.later hC.out hb5
      rw [World.size_alloc] at hg
      clear hC hb5
      go_wp2_with (fail)
      generalize u.heap.size = mb at *
      go_loopw [17] (fun i wr => ∃ k : Nat, i = .int .i64 k ∧ k ≤ 4 ∧ Cmp w wr mb P I B h k ∧ Cel wr (some ⟨g, 0, none⟩) (plc w.heap.size mb) ∧ g < wr.heap.size) (fun i _ => 4 - (intOf i).toNat)
      case atStart => exact ⟨0, rfl, by decide, hC5, hcel, hgl⟩
      case round =>
        obtain ⟨k, rfl, hk, hC, hcel, hgl⟩ := hrel
        by_cases hk4 : k < 4
        · obtain ⟨c0, c1, c2⟩ := hcel.place k hk4
          go_wp2_with (fail)
          have hW := hC.later (On.alloc wr (.cells #[.int .i64 (atW k : Nat), .int .i64 (wdW k : Nat), .pointer (some (ptrW w.heap.size mb k))] 66))
          have hnum64 : numW P I B (h) k < 18446744073709551616 := num_lt64 hf.out k
          refine wp_region_rel2 (E := fun k => decide (k ≤ 17) && decide (k ≠ 16)) (s := 18) (T0 := On) (T := WrT (w.heap.size + 1) (supO P I B (h) (k + 1))) (R := sps (w.heap.size + 1) (supO P I B (h) (k + 1)) [.val (.slice (some ⟨w.heap.size + 1, 0, none⟩) 7 7), .val (.slice (some ⟨w.heap.size + 1, 0, none⟩) 7 7), .val (.pointer (some ⟨w.heap.size + 1, 1, none⟩)), .val (.int .u64 (accW P I B (h) k : Nat)), .val (.pointer (some ⟨wr.heap.size, 0, none⟩)), .val (.int .i64 (atW k : Nat)), .val (.pointer (some ⟨wr.heap.size, 1, none⟩)), .val (.int .i64 (wdW k : Nat)), .val (.pointer (some ⟨wr.heap.size, 2, none⟩)), .val (.pointer (some (ptrW w.heap.size mb k))), .val (.pointer (some (ptrW w.heap.size mb k))), .val (.int .i64 (numW P I B (h) k : Nat)), .val (.int .u64 (numW P I B (h) k : Nat)), .val (.tuple #[.int .u64 (accW P I B (h) (k + 1) : Nat), .int .i64 0]), .val (.tuple #[.int .u64 (accW P I B (h) (k + 1) : Nat), .int .i64 0]), .val (.int .u64 (accW P I B (h) (k + 1) : Nat)), .val (.int .i64 0), .val (.pointer (some ⟨w.heap.size + 1, 1, none⟩)), .done])
            (by kernel_rfl) (by kernel_rfl) On.refl On.trans WrT.on WrT.trans (fun i v w w' h k => Sp2.stable h k) (sps_un (by kernel_rfl)) (On.drawn _) (by kernel_rfl) ?steps ?rest
          case steps =>
            refine ⟨?s0, ?s1, ?s2, ?s3, ?s4, ?s5, ?s6, ?s7, ?s8, ?s9, ?s10, ?s11, ?s12, ?s13, ?s14, ?s15, ?s16, ?s17, ?s18, trivial⟩
            case s0 =>
              exact fun a u hT h0 hA hd => .inl ⟨rfl, StepOK.move (.tmp 5) rfl (hA.eval 5 rfl) (On.refl _)⟩
            case s1 =>
              exact fun a u hT h0 hA hd => .inl ⟨rfl, StepOK.move (.tmp 5) rfl (hA.eval 5 rfl) (On.refl _)⟩
            case s2 =>
              exact fun a u hT h0 hA hd => .inl ⟨rfl, stp_iaddr (On.refl _) (.tmp 23) (.const (.int .i64 1)) rfl (w.heap.size + 1) 0 7 7 1 (dep hd 1 23 rfl rfl) rfl (by decide) (by show Value.pointer _ = _; rw [Nat.zero_add])⟩
            case s3 =>
              intro a u hT h0 hA hd
              have hrow := hW.row.below (h0 rfl) hW.row.lt
              exact .inl ⟨rfl, stp_load64 (On.refl _) (.tmp 24) rfl ⟨w.heap.size + 1, 1, none⟩ _ (dep hd 2 24 rfl rfl) (hrow.cell 1 (by simp [supTo])) rfl⟩
            case s4 =>
              exact fun a u hT h0 hA hd => .inl ⟨rfl, stp_faddr (On.refl _) (.tmp 8) 66 0 rfl ⟨wr.heap.size, 0, none⟩ ⟨wr.heap.size, 0, none⟩ (hA.eval 8 rfl) (by simp [go_sem]) rfl⟩
            case s5 =>
              intro a u hT h0 hA hd
              have hbx := (Below.block (h0 rfl) wr.heap.size (by simp)).trans (heap_alloc_new wr _)
              exact .inl ⟨rfl, stp_loadInt (On.refl _) (.tmp 26) rfl ⟨wr.heap.size, 0, none⟩ _ (dep hd 4 26 rfl rfl) (three_cells hbx).1 rfl⟩
            case s6 =>
              exact fun a u hT h0 hA hd => .inl ⟨rfl, stp_faddr (On.refl _) (.tmp 8) 66 1 rfl ⟨wr.heap.size, 0, none⟩ ⟨wr.heap.size, 1, none⟩ (hA.eval 8 rfl) (by simp [go_sem]) rfl⟩
            case s7 =>
              intro a u hT h0 hA hd
              have hbx := (Below.block (h0 rfl) wr.heap.size (by simp)).trans (heap_alloc_new wr _)
              exact .inl ⟨rfl, stp_loadInt (On.refl _) (.tmp 28) rfl ⟨wr.heap.size, 1, none⟩ _ (dep hd 6 28 rfl rfl) (three_cells hbx).2.1 rfl⟩
            case s8 =>
              exact fun a u hT h0 hA hd => .inl ⟨rfl, stp_faddr (On.refl _) (.tmp 8) 66 2 rfl ⟨wr.heap.size, 0, none⟩ ⟨wr.heap.size, 2, none⟩ (hA.eval 8 rfl) (by simp [go_sem]) rfl⟩
            case s9 =>
              intro a u hT h0 hA hd
              have hbx := (Below.block (h0 rfl) wr.heap.size (by simp)).trans (heap_alloc_new wr _)
              exact .inl ⟨rfl, stp_loadPtr (On.refl _) (.tmp 30) rfl ⟨wr.heap.size, 2, none⟩ _ (dep hd 8 30 rfl rfl) (three_cells hbx).2.2 rfl⟩
            case s10 =>
              exact fun a u hT h0 hA hd => .inl ⟨rfl, stp_nil (On.refl _) (.tmp 31) rfl (ptrW w.heap.size mb k) (dep hd 9 31 rfl rfl) rfl⟩
            case s11 =>
              intro a u hT h0 hA hd
              exact .inl ⟨rfl, stp_loadInt (On.refl _) (.tmp 32) rfl (ptrW w.heap.size mb k) _ (dep hd 10 32 rfl rfl) ((hW.later (h0 rfl)).num k hk4) rfl⟩
            case s12 =>
              exact fun a u hT h0 hA hd => .inl ⟨rfl, stp_conv64 (On.refl _) (.tmp 33) rfl (numW P I B (h) k) (dep hd 11 33 rfl rfl) hnum64 rfl⟩
            case s13 =>
              intro a u hT h0 hA hd
              refine .inl ⟨rfl, StepOK.call 27 #[.int .u64 (accW P I B (h) k : Nat), .int .i64 (atW k : Nat), .int .i64 (wdW k : Nat), .int .u64 (numW P I B (h) k : Nat)] ?_ ((putk_calls hf.out hk4 u).mono ?_)⟩
              · have e1 : a.eval (.tmp 25) = .int .u64 (accW P I B (h) k : Nat) := dep hd 3 25 rfl rfl
                have e2 : a.eval (.tmp 27) = .int .i64 (atW k : Nat) := dep hd 5 27 rfl rfl
                have e3 : a.eval (.tmp 29) = .int .i64 (wdW k : Nat) := dep hd 7 29 rfl rfl
                have e4 : a.eval (.tmp 34) = .int .u64 (numW P I B (h) k : Nat) := dep hd 12 34 rfl rfl
                unfold execOp
                simp only [resolve, List.map_toArray, List.map_cons, List.map_nil, e1, e2, e3, e4]
                simp [go_sem]
              · rintro e u' ⟨rfl, m, rfl⟩
                exact ⟨_, rfl, rfl, below_drewN (Below.refl _ _) m⟩
            case s14 =>
              exact fun a u hT h0 hA hd => .inl ⟨rfl, StepOK.move (.tmp 35) rfl (dep hd 13 35 rfl rfl) (On.refl _)⟩
            case s15 =>
              exact fun a u hT h0 hA hd => .inl ⟨rfl, stp_extract (On.refl _) (.tmp 21) 0 rfl _ _ (dep hd 14 21 rfl rfl) rfl rfl⟩
            case s16 =>
              exact fun a u hT h0 hA hd => .inl ⟨rfl, stp_extract (On.refl _) (.tmp 21) 1 rfl _ _ (dep hd 14 21 rfl rfl) rfl rfl⟩
            case s17 =>
              exact fun a u hT h0 hA hd => .inl ⟨rfl, stp_iaddr (On.refl _) (.tmp 22) (.const (.int .i64 1)) rfl (w.heap.size + 1) 0 7 7 1 (dep hd 0 22 rfl rfl) rfl (by decide) (by show Value.pointer _ = _; rw [Nat.zero_add])⟩
            case s18 =>
              intro a u hT h0 hA hd
              have hrow := hW.row.below (h0 rfl) hW.row.lt
              have hset := hrow.set 1 (accW P I B (h) (k + 1))
              exact .inl ⟨rfl, stp_store64 (.tmp 38) (.tmp 36) rfl ⟨w.heap.size + 1, 1, none⟩ _ _ (dep hd 17 38 rfl rfl) (dep hd 15 36 rfl rfl) (hrow.cell 1 (by simp [supTo])) (hrow.frozen 1) ⟨Only.setCell (F := fun k => k = w.heap.size + 1) (Only.refl _ _) (.inl rfl) _, fun _ => hset⟩ hset⟩
          case rest =>
            intro vs u hT hR
            have h18 : u.heap[w.heap.size + 1]? = some (supO P I B h (k + 1)) := hR 18 (by decide)
            have hCn := hW.next hT.only h18
            have hcn := (hcel.below (On.alloc wr (.cells #[.int .i64 (atW k : Nat), .int .i64 (wdW k : Nat), .pointer (some (ptrW w.heap.size mb k))] 66))).only hT.only (by intro ad e _; injection e with e; subst e; show ¬ g = _; omega)
            have hln : g < u.heap.size := by have := hT.only.size; rw [World.size_alloc] at this; omega
            simp only [putsFrom, Act.put, List.setIfInBounds_toArray, List.set_cons_succ, List.set_cons_zero]
            clear hR hT hW hC hcel hgl h18 hnum64
            go_wp2_with (fail)
            go_roundw
            case rel => exact ⟨k + 1, by go_num, by omega, hCn, hcn, hln⟩
            case measure => simp [intOf]; omega
        · obtain rfl : k = 4 := by omega
          have hls : Hid ((supL P I B h).length = 7) := Lib.hid rfl
          go_wp2_with (fail)
          refine (Seal_calls2 (some ⟨w.heap.size + 1, 0, none⟩) (supL P I B h) 7 wr hC.row.row (sup_wd hf.out) (by rw [hls.out]; decide) (HT.out.below hC.below)).mono ?_
          rintro e w9 ⟨A9, c9, rfl, hr9, hf9, hb9, hc9, ho9⟩
          go_wp2_with (fail)
          go_ret
          have hfin : GivesOwn (superL P I B h) w (.returned (.slice A9 (sealed (supL P I B h)).length c9)) w9 := ⟨A9, c9, rfl, hr9, hf9.mono hC.below.size, hC.below.trans (hb9.mono hC.below.size), hc9, ho9⟩
          first
            | rw [show superL P I B (hN false) = superL P I B h by rw [hv.out]; rfl]
            | rw [show superL P I B (hN true) = superL P I B h by rw [hv.out]; rfl]
          exact hfin
theorem compose_calls (P I B : Nat) (hi : Bool) (w : World) (hf : Fits P I B (hN hi)) (hT : TabAt w) :
    Calls Tryd.prog 16 #[gv P I B, .bool hi] w (Gives (superL P I B (hN hi)) w) :=
  (compose_own P I B hi w hf hT).mono fun _ _ ⟨A', c', h1, h2, h3, h4, h5, _⟩ => ⟨A', c', h1, h2, h3, h4, h5⟩
end Go.Proofs.YtgedahjifbopcaaDoor
