/- Some answers that the document fixes. -/
import Derived.Test.YtcjaebcninlhlaaAc4
import Derived.Test.YtcjaebcninlhlaaAc9
set_option linter.unusedSimpArgs false
set_option linter.unusedVariables false
namespace Go.Proofs.Ytcjaebcninlhlaa
open Go.RowKit Go.Sort Go.Lib
abbrev a0L : List Nm := [⟨5, 6⟩]
abbrev a0 : Ac := ⟨7, 7, 7, a0L, [], true, 6⟩
abbrev b0 : Ac := ⟨7, 7, 0, a0L, [], true, 0⟩
theorem a0_named : namedB a0L = true := namedB_yes (Rise.first (p := ⟨5, 6⟩) rfl (by decide)) (by decide)
theorem a0_may : mayB a0 = true := mayB_iff.2 ⟨by decide, by decide, by decide, by decide, a0_named, namedB_nil, fun h => by cases h⟩
theorem a0_bits : bitsN a0 = 503 := by decide
theorem b0_bits : bitsN b0 = 448 := by decide
theorem a0_ch : chA a0 448 = b0 := rfl
theorem of_416 : sameB (ofA 416) ⟨6, 4, 0, [], [], false, 0⟩ = true := sameB_iff.2 rfl
theorem a0_b0 : sameB a0 b0 = false := sameB_no fun h => by injection h with _ _ h; cases h
theorem eight_no : mayB ⟨8, 0, 0, [], [], false, 0⟩ = false := mayB_no fun h => by have := h.ow; simp at this
theorem nb_a0 : Nb a0 := ⟨by decide, by decide, by decide, by decide, fun k p h => by simp at h⟩
theorem nb_b0 : Nb b0 := ⟨by decide, by decide, by decide, by decide, fun k p h => by simp at h⟩
theorem sm_a0 : Sm a0 := ⟨by decide, by decide⟩
theorem sm_b0 : Sm b0 := ⟨by decide, by decide⟩
theorem sm_of (b : Nat) : Sm (ofA b) := ⟨by simp [ofA], by simp [ofA]⟩
theorem cel_new (w : World) (xs : List Value) (e : TypeId) : Cel (w.alloc (.cells xs.toArray e)) (some ⟨w.heap.size, 0, none⟩) xs := fun _ =>
  ⟨_, rfl, by simp, fun j u hu => by rw [add_zero_block, cell_of_row _ _ j _ e (0, 0) (heap_alloc_new w _), List.getElem?_toArray, hu]⟩
/-- Both lists in their blocks. -/
structure Both (w wr : World) (g1 g2 : Nat) (x y : Ac) (p q : Lie) : Prop where
  one : Ab wr g1 x p
  two : Ab wr g2 y q
  row1 : Lies wr x p
  row2 : Lies wr y q
  low : Below w.heap.size w wr
theorem Both.on {w wr w' : World} {g1 g2 : Nat} {x y : Ac} {p q : Lie} (h : Both w wr g1 g2 x y p q) (hb : Below wr.heap.size wr w') : Both w w' g1 g2 x y p q :=
  ⟨h.one.on hb, h.two.on hb, h.row1.below hb, h.row2.below hb, h.low.trans (hb.mono h.low.size)⟩
set_option maxRecDepth 100000 in
set_option maxHeartbeats 4000000 in
theorem alive_calls (w : World) : Calls Try.prog 9 #[] w fun e w' => e = .returned (.bool true) ∧ Below w.heap.size w w' := by
  obtain ⟨U, hU⟩ : ∃ U, U = (w.alloc (.cells #[.int .u16 5, .int .u8 6] 40)).alloc (.cells #[.int .u8 7, .int .u8 7, .int .u8 7, .slice (some ⟨w.heap.size, 0, none⟩) 1 1, .slice none 0 0, .bool true, .int .u8 6] 24) := ⟨_, rfl⟩
  have z1 : Ab U (w.heap.size + 1) a0 ⟨some ⟨w.heap.size, 0, none⟩, 1, none, 0⟩ := by
    have h := Ab.new (w.alloc (.cells #[.int .u16 5, .int .u8 6] 40)) a0 ⟨some ⟨w.heap.size, 0, none⟩, 1, none, 0⟩
    rw [World.size_alloc] at h
    rw [hU]; exact h
  have hb : Below w.heap.size w U := by rw [hU]; exact ((Below.refl _ _).alloc (Nat.le_refl _) _).alloc (by simp) _
  have hr : Lies U a0 ⟨some ⟨w.heap.size, 0, none⟩, 1, none, 0⟩ := by
    rw [hU]
    exact ⟨(cel_new w (nv a0L) 40).below ((Below.refl _ _).alloc (Nat.le_refl _) _), Cel.nil _ _⟩
  have hs : U.heap.size = w.heap.size + 2 := by rw [hU]; simp
  have HU := Lib.hid hU
  have HS := Lib.hid hs
  have HB := Lib.hid hb
  have HR := Lib.hid hr
  have Z1 := Lib.hid z1
  clear hU hs hb hr z1
  go_enter Try.func9, Try.ntmps9
  go_upto_region 2 with (fail)
  rw [← HU.out]
  clear HU
  obtain ⟨g1, hg1⟩ : ∃ g, g = w.heap.size + 1 := ⟨_, rfl⟩
  obtain ⟨A0, hA0⟩ : ∃ A : Option Addr, A = some ⟨w.heap.size, 0, none⟩ := ⟨_, rfl⟩
  have HG1 := Lib.hid hg1
  rw [← hg1, ← hA0]
  rw [← hA0] at HR Z1
  rw [← hg1] at Z1
  clear hg1 hA0
  obtain ⟨y0, y1, y2, y3, y4, y5, y6⟩ := Z1.out.cells
  simp only at y0 y1 y2 y3 y4 y5 y6
  go_wp2_with (fail)
  clear y0 y1 y2 y3 y4 y5 y6
  have hch : Calls Try.prog 16 #[a0.v ⟨A0, 1, none, 0⟩, .int .u16 448] U fun e w' => ∃ q, e = .returned (b0.v q) ∧ Copied U w' b0 q ∧ Below U.heap.size U w' := chmod_calls a0 ⟨A0, 1, none, 0⟩ 448 U HR.out sm_a0 (by decide)
  refine hch.mono ?_
  rintro e w1 ⟨⟨A1, c1, B1, d1⟩, rfl, hC, hb1⟩
  obtain ⟨rb, ro, rfl, _, _⟩ := hC.lies.us.nm (by decide)
  have HC := Lib.hid hC
  have HB1 := Lib.hid hb1
  clear hC hb1 hch
  go_upto_region 3 with (fail)
  obtain ⟨V, hV⟩ : ∃ V, V = w1.alloc (.cells #[.int .u8 7, .int .u8 7, .int .u8 0, .slice (some ⟨rb, ro, none⟩) 1 c1, .slice B1 0 d1, .bool true, .int .u8 0] 24) := ⟨_, rfl⟩
  have z2 : Ab V w1.heap.size b0 ⟨some ⟨rb, ro, none⟩, c1, B1, d1⟩ := by rw [hV]; exact Ab.new w1 b0 ⟨some ⟨rb, ro, none⟩, c1, B1, d1⟩
  have hbV : Below w1.heap.size w1 V := by rw [hV]; exact (Below.refl _ _).alloc (Nat.le_refl _) _
  have H0 : Hid (Both w V g1 w1.heap.size a0 b0 ⟨A0, 1, none, 0⟩ ⟨some ⟨rb, ro, none⟩, c1, B1, d1⟩) := Lib.hid ⟨(Z1.out.on HB1.out).on hbV, z2, (HR.out.below HB1.out).below hbV, HC.out.lies.below hbV, (HB.out.trans (HB1.out.mono HB.out.size)).trans (hbV.mono (Nat.le_trans HB.out.size HB1.out.size))⟩
  rw [← hV]
  obtain ⟨g2, hg2⟩ : ∃ g, g = w1.heap.size := ⟨_, rfl⟩
  rw [← hg2] at H0 ⊢
  clear hV z2 hbV hg2 HC HB1 HR HB HS Z1 HG1
  obtain ⟨y0, y1, y2, y3, y4, y5, y6⟩ := H0.out.one.cells
  obtain ⟨v0, v1, v2, v3, v4, v5, v6⟩ := H0.out.two.cells
  have r := H0.out.row2.us.nm0 (k := 0) (p := ⟨5, 6⟩) rfl
  obtain ⟨r0, r1⟩ := r
  simp only [Nat.zero_mul, Nat.add_zero] at y0 y1 y2 y3 y4 y5 y6 v0 v1 v2 v3 v4 v5 v6 r0 r1
  go_wp2_with (fail)
  clear y0 y1 y2 y3 y4 y5 y6 v0 v1 v2 v3 v4 v5 v6 r0 r1
  have c := check_calls a0 ⟨A0, 1, none, 0⟩ _ H0.out.row1 sm_a0
  rw [a0_may] at c
  refine (c).mono ?_
  rintro e w1 ⟨rfl, hb⟩
  have H1 := Lib.hid (H0.out.on hb)
  clear hb
  obtain ⟨y0, y1, y2, y3, y4, y5, y6⟩ := H1.out.one.cells
  obtain ⟨v0, v1, v2, v3, v4, v5, v6⟩ := H1.out.two.cells
  have r := H1.out.row2.us.nm0 (k := 0) (p := ⟨5, 6⟩) rfl
  obtain ⟨r0, r1⟩ := r
  simp only [Nat.zero_mul, Nat.add_zero] at y0 y1 y2 y3 y4 y5 y6 v0 v1 v2 v3 v4 v5 v6 r0 r1
  go_wp2_with (fail)
  clear y0 y1 y2 y3 y4 y5 y6 v0 v1 v2 v3 v4 v5 v6 r0 r1
  clear c
  have c := bits_calls a0 ⟨A0, 1, none, 0⟩ w1 nb_a0
  rw [a0_bits] at c
  refine (c).mono ?_
  rintro e w2 ⟨rfl, hb⟩
  have H2 := Lib.hid (H1.out.on hb)
  clear hb
  obtain ⟨y0, y1, y2, y3, y4, y5, y6⟩ := H2.out.one.cells
  obtain ⟨v0, v1, v2, v3, v4, v5, v6⟩ := H2.out.two.cells
  have r := H2.out.row2.us.nm0 (k := 0) (p := ⟨5, 6⟩) rfl
  obtain ⟨r0, r1⟩ := r
  simp only [Nat.zero_mul, Nat.add_zero] at y0 y1 y2 y3 y4 y5 y6 v0 v1 v2 v3 v4 v5 v6 r0 r1
  go_wp2_with (fail)
  clear y0 y1 y2 y3 y4 y5 y6 v0 v1 v2 v3 v4 v5 v6 r0 r1
  clear c
  have c := bits_calls b0 ⟨some ⟨rb, ro, none⟩, c1, B1, d1⟩ w2 nb_b0
  rw [b0_bits] at c
  refine (c).mono ?_
  rintro e w3 ⟨rfl, hb⟩
  have H3 := Lib.hid (H2.out.on hb)
  clear hb
  obtain ⟨y0, y1, y2, y3, y4, y5, y6⟩ := H3.out.one.cells
  obtain ⟨v0, v1, v2, v3, v4, v5, v6⟩ := H3.out.two.cells
  have r := H3.out.row2.us.nm0 (k := 0) (p := ⟨5, 6⟩) rfl
  obtain ⟨r0, r1⟩ := r
  simp only [Nat.zero_mul, Nat.add_zero] at y0 y1 y2 y3 y4 y5 y6 v0 v1 v2 v3 v4 v5 v6 r0 r1
  go_wp2_with (fail)
  clear y0 y1 y2 y3 y4 y5 y6 v0 v1 v2 v3 v4 v5 v6 r0 r1
  clear c
  refine (of_calls 416 _ (by decide)).mono ?_
  rintro e w4 ⟨⟨A2, c2, B2, d2⟩, rfl, hC, hb⟩
  have H4 := Lib.hid (H3.out.on hb)
  clear hb
  have HC := Lib.hid hC
  clear hC
  obtain ⟨W, hW⟩ : ∃ W, W = w4 := ⟨_, rfl⟩
  clear hW W
  go_wp2_with (fail)
  have c : Calls Try.prog 13 #[(ofA 416).v ⟨A2, c2, B2, d2⟩, .agg #[.int .u8 6, .int .u8 4, .int .u8 0, .slice none 0 0, .slice none 0 0, .bool false, .int .u8 0]] w4 fun e w' => e = .returned (.bool true) ∧ Below w4.heap.size w4 w' := by
    have := lsame_calls (ofA 416) ⟨6, 4, 0, [], [], false, 0⟩ ⟨A2, c2, B2, d2⟩ lieZ w4 HC.out.lies ⟨Cel.nil _ _, Cel.nil _ _⟩ (sm_of 416) ⟨by decide, by decide⟩
    rw [of_416] at this
    exact this
  refine c.mono ?_
  rintro e w5 ⟨rfl, hb⟩
  have H5 := Lib.hid (H4.out.on hb)
  clear hb c HC
  obtain ⟨y0, y1, y2, y3, y4, y5, y6⟩ := H5.out.one.cells
  obtain ⟨v0, v1, v2, v3, v4, v5, v6⟩ := H5.out.two.cells
  have r := H5.out.row2.us.nm0 (k := 0) (p := ⟨5, 6⟩) rfl
  obtain ⟨r0, r1⟩ := r
  simp only [Nat.zero_mul, Nat.add_zero] at y0 y1 y2 y3 y4 y5 y6 v0 v1 v2 v3 v4 v5 v6 r0 r1
  go_wp2_with (fail)
  clear y0 y1 y2 y3 y4 y5 y6 v0 v1 v2 v3 v4 v5 v6 r0 r1
  have c := lsame_calls a0 b0 ⟨A0, 1, none, 0⟩ ⟨some ⟨rb, ro, none⟩, c1, B1, d1⟩ _ H5.out.row1 H5.out.row2 sm_a0 sm_b0
  rw [a0_b0] at c
  refine (c).mono ?_
  rintro e w6 ⟨rfl, hb⟩
  have H6 := Lib.hid (H5.out.on hb)
  clear hb
  clear c
  go_wp2_with (fail)
  have c : Calls Try.prog 11 #[.agg #[.int .u8 8, .int .u8 0, .int .u8 0, .slice none 0 0, .slice none 0 0, .bool false, .int .u8 0]] w6 fun e w' => e = .returned (.int .i64 622) ∧ Below w6.heap.size w6 w' := by
    have := check_calls ⟨8, 0, 0, [], [], false, 0⟩ lieZ w6 ⟨Cel.nil _ _, Cel.nil _ _⟩ ⟨by decide, by decide⟩
    rw [eight_no] at this
    exact this
  refine c.mono ?_
  rintro e w7 ⟨rfl, hb⟩
  have H7 := Lib.hid (H6.out.on hb)
  clear hb c
  go_wp2_with (fail)
  go_ret
  exact ⟨rfl, H7.out.low⟩
end Go.Proofs.Ytcjaebcninlhlaa
