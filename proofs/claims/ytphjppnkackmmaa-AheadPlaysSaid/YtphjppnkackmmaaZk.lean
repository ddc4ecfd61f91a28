/- Scripts in memory, which are light; the chapter's examples. -/
import Derived.Test.YtphjppnkackmmaaZg
import Derived.Test.YtphjppnkackmmaaZi
set_option linter.unusedSimpArgs false
set_option linter.unusedVariables false
namespace Go.Proofs.Ytphjppnkackmmaa
open Go Go.RowKit SumMath WordMath
/-- A step. -/
structure St where
  act : Int
  ka : Option Addr
  l : List Re
  kc : Nat
  pos : Int
  word : Nat
def s0 : St := ⟨0, none, [], 0, 0, 0⟩
/-- A row of steps. -/
def SRow (w : World) (A : Option Addr) (l : List St) : Prop :=
  0 < l.length → ∃ b o, A = some ⟨b, o, none⟩ ∧ b < w.heap.size ∧ ∀ k, k < l.length →
    w.cell? ⟨b, o + k * 4, none⟩ = some (.int .i64 (l.getD k s0).act) ∧ w.cell? ⟨b, o + k * 4 + 1, none⟩ = some (.slice (l.getD k s0).ka (l.getD k s0).l.length (l.getD k s0).kc) ∧
    w.cell? ⟨b, o + k * 4 + 2, none⟩ = some (.int .i64 (l.getD k s0).pos) ∧ w.cell? ⟨b, o + k * 4 + 3, none⟩ = some (.int .u64 ((l.getD k s0).word : Nat))
theorem SRow.below {w w' : World} {A : Option Addr} {l : List St} (h : SRow w A l) (hb : Below w.heap.size w w') : SRow w' A l := fun h0 => by
  obtain ⟨b, o, e, hl, hc⟩ := h h0
  exact ⟨b, o, e, Nat.lt_of_lt_of_le hl hb.size, fun k hk => by
    obtain ⟨x0, x1, x2, x3⟩ := hc k hk
    exact ⟨(hb.cell (p := ⟨b, _, none⟩) hl).trans x0, (hb.cell (p := ⟨b, _, none⟩) hl).trans x1, (hb.cell (p := ⟨b, _, none⟩) hl).trans x2, (hb.cell (p := ⟨b, _, none⟩) hl).trans x3⟩⟩
/-- What is known of each step. -/
structure StOK (w : World) (s : St) : Prop where
  cel : Cel w s.ka (ev s.l)
  len : s.l.length ≤ 8796093022208
  rn : RN s.l
  p0 : -9223372036854775808 ≤ s.pos
  p1 : s.pos ≤ 9223372036854775807
  wd : s.word < 18446744073709551616
/-- Few steps, with few entries each. -/
def Light (l : List St) : Prop := l.length ≤ 150 ∧ ∀ k, k < l.length → (l.getD k s0).l.length ≤ 2000
def HeavyPost (l : List St) (w : World) (e : Ending) (w' : World) : Prop := ∃ b, e = .returned (.bool b) ∧ w = w' ∧ (b = false → Light l)
/-- The first k steps have q entries. -/
structure FewTo (l : List St) (k q : Nat) : Prop where
  all : ∀ j, j < k → (l.getD j s0).l.length ≤ q
theorem FewTo.step {l : List St} {k q : Nat} (h : FewTo l k q) {m : Nat} (hk : (l.getD k s0).l.length = m) : FewTo l (k + 1) (q + m) := ⟨fun j hj => by
  by_cases h1 : j < k
  · have := h.all j h1; omega
  · obtain rfl : j = k := by omega
    omega⟩
set_option maxRecDepth 100000 in
theorem heavy_calls (w : World) (A : Option Addr) (l : List St) (c : Nat) (hr : SRow w A l) (hok : ∀ k, k < l.length → StOK w (l.getD k s0)) (hlen : l.length ≤ 9223372036854775807) :
    Calls Try.prog 7 #[.slice A l.length c] w (HeavyPost l w) := by
  have HO := Lib.hid hok
  obtain ⟨n, hln⟩ : ∃ n, l.length = n := ⟨_, rfl⟩
  have HL := Lib.hid hln
  rw [hln] at hlen ⊢
  clear hok hln
  go_enter Try.func7, Try.ntmps7
  go_wp2_with (fail)
  go_loop [3, 4] (fun n0 i => ∃ k q : Nat, i = .int .i64 k ∧ k ≤ n ∧ k ≤ 200 ∧ n0 = .int .i64 q ∧ q ≤ 8796093022208 * k ∧ Hid (FewTo l k q)) (fun _ i => n - (intOf i).toNat)
  case atStart => exact ⟨0, 0, rfl, Nat.zero_le _, Nat.zero_le _, rfl, by omega, Lib.hid ⟨fun j hj => absurd hj (by omega)⟩⟩
  case round =>
    obtain ⟨k, q, rfl, hk, hk2, rfl, hq, hF⟩ := hrel
    by_cases hlt : k < n
    · by_cases h200 : k < 200
      · obtain ⟨b, o, rfl, hbl, hc⟩ := hr (by rw [HL.out]; omega)
        obtain ⟨_, x1, _, _⟩ := hc k (by rw [HL.out]; exact hlt)
        have hm := (HO.out k (by rw [HL.out]; exact hlt)).len
        obtain ⟨m, hkl⟩ : ∃ m, (l.getD k s0).l.length = m := ⟨_, rfl⟩
        have hst := Lib.hid (hF.out.step hkl)
        rw [hkl] at x1 hm
        clear hc hr hF hkl
        generalize (l.getD k s0).ka = ka at *
        generalize (l.getD k s0).kc = kc at *
        go_wp2_with (fail)
        go_round
        case rel => exact ⟨k + 1, q + m, by go_num, by omega, by omega, by go_num, by omega, hst⟩
        case measure => simp [intOf]; omega
      · have h150 : 150 < n := by omega
        have h200' : 200 ≤ k := by omega
        go_wp2_with (fail)
        go_ret
        exact ⟨true, rfl, rfl, fun h => by cases h⟩
    · obtain rfl : n = k := by omega
      by_cases h150 : 150 < n
      · go_wp2_with (fail)
        go_ret
        exact ⟨true, rfl, rfl, fun h => by cases h⟩
      · have h150' : n ≤ 150 := by omega
        by_cases hq5 : 2000 < q
        · go_wp2_with (fail)
          go_ret
          exact ⟨true, by simp; omega, rfl, fun h => by cases h⟩
        · go_wp2_with (fail)
          go_ret
          refine ⟨false, by simp; omega, rfl, fun _ => ⟨by rw [HL.out]; exact h150', fun j hj => ?_⟩⟩
          have := hF.out.all j (by rw [HL.out] at hj; exact hj)
          omega
theorem cells_rows {w : World} {g : Nat} {L : List Re} {t : TypeId} (hw : w.heap[g]? = some (.cells (ev L).toArray t (0, 0))) : Cel w (some ⟨g, 0, none⟩) (ev L) := fun h0 =>
  ⟨_, rfl, lt_of_cells hw, fun j u hu => by rw [add_zero_block, cell_of_row w g j _ t (0, 0) hw, List.getElem?_toArray]; exact hu⟩
def exL : List Re := [⟨5, 1⟩, ⟨2, 7⟩, ⟨5, 3⟩]
def exM : List Re := [⟨1, 0⟩, ⟨-1, 0⟩]
theorem exL_rn : RN exL := by unfold RN; decide
theorem exM_rn : RN exM := by unfold RN; decide
theorem exL_e : putE exL = 0 := by decide
theorem exL_t : putR [] exL = [⟨2, 7⟩, ⟨5, 3⟩] := by decide
theorem exM_e : putE exM = 2 := by decide
theorem exM_t : putR [⟨2, 7⟩] exM = [⟨2, 7⟩] := by decide
set_option maxRecDepth 100000 in
set_option maxHeartbeats 1000000 in
theorem alive_calls (w : World) : Calls Try.prog 8 #[] w fun e w' => e = .returned (.bool true) ∧ Below w.heap.size w w' := by
  go_enter Try.func8, Try.ntmps8
  go_wp2_with (fail)
  refine (new_calls _).mono ?_
  rintro e w1 ⟨g, b, rfl, hg, hb, hA1, hB1⟩
  have HB1 := Lib.hid hB1
  have HA1 := Lib.hid hA1
  have hgl := hA1.ltg
  clear hA1 hB1
  have hB1w := HB1.out.size
  have hP := put_calls (HA1.out.below ((Below.refl _ _).alloc (Nat.le_refl _) (.cells (ev exL).toArray 38))) (some ⟨w1.heap.size, 0, none⟩) exL 3 (cells_rows (heap_alloc_new w1 _)) exL_rn (by decide)
  rw [exL_e, exL_t] at hP
  have HP := Lib.hid hP
  clear hP
  go_wp2_with (fail)
  refine HP.out.mono ?_
  clear HP
  rintro e w2 ⟨rfl, hA2, hG2⟩
  have HB2 := Lib.hid ((HB1.out.alloc HB1.out.size (.cells (ev exL).toArray 38)).grown hG2 (by simp; omega) (fun j e => by injection e with e; omega))
  have HA2 := Lib.hid hA2
  have h5 := Lib.hid (load_calls hA2 5 9 (by decide) (by decide))
  have h6 := Lib.hid (load_calls hA2 6 9 (by decide) (by decide))
  have h7 := Lib.hid (list_calls hA2 (by decide))
  rw [show loadT [⟨2, 7⟩, ⟨5, 3⟩] 5 9 = 3 by decide] at h5
  rw [show loadT [⟨2, 7⟩, ⟨5, 3⟩] 6 9 = 9 by decide] at h6
  clear hA2 hG2 HB1 HA1 hgl
  go_wp2_with (fail)
  refine h5.out.mono ?_
  rintro e w' ⟨rfl, rfl⟩
  go_wp2_with (fail)
  refine h6.out.mono ?_
  rintro e w' ⟨rfl, rfl⟩
  go_wp2_with (fail)
  refine h7.out.mono ?_
  clear h5 h6 h7
  rintro e w3 ⟨A, c, rfl, hM3, hb3⟩
  have HA3 := Lib.hid (HA2.out.below hb3)
  have HB3 := Lib.hid (HB2.out.trans (hb3.mono HB2.out.size))
  have HM3 := Lib.hid hM3
  have h8 := Lib.hid (done_calls HA3.out 5 (by decide) (by decide))
  rw [show doneE [⟨2, 7⟩, ⟨5, 3⟩] 5 = 0 by decide, show delT [⟨2, 7⟩, ⟨5, 3⟩] 5 = [⟨2, 7⟩] by decide] at h8
  clear hM3 hb3 HA2 HB2
  go_wp2_with (fail)
  refine h8.out.mono ?_
  clear h8
  rintro e w4 ⟨rfl, hA4, hG4⟩
  have HA4 := Lib.hid hA4
  have HB4 := Lib.hid (HB3.out.grown hG4 HB3.out.size (fun j e => by injection e with e; omega))
  have HM4 := Lib.hid (HM3.out.turned HA3.out.map hG4)
  have h9 := Lib.hid (done_calls hA4 5 (by decide) (by decide))
  rw [show doneE [⟨2, 7⟩] 5 = 3 by decide, show delT [⟨2, 7⟩] 5 = [⟨2, 7⟩] by decide] at h9
  clear hA4 hG4 HA3 HB3 HM3
  go_wp2_with (fail)
  refine h9.out.mono ?_
  clear h9
  rintro e w5 ⟨rfl, hA5, hG5⟩
  have HA5 := Lib.hid hA5
  have HB5 := Lib.hid (HB4.out.grown hG5 HB4.out.size (fun j e => by injection e with e; omega))
  have HM5 := Lib.hid (HM4.out.turned HA4.out.map hG5)
  have hb6 : Below w5.heap.size w5 (w5.alloc (.cells (ev exM).toArray 38)) := (Below.refl _ _).alloc (Nat.le_refl _) _
  have hP := put_calls (HA5.out.below hb6) (some ⟨w5.heap.size, 0, none⟩) exM 2 (cells_rows (heap_alloc_new w5 _)) exM_rn (by decide)
  rw [exM_e, exM_t] at hP
  have HP := Lib.hid hP
  have HM6 := Lib.hid (HM5.out.on hb6)
  have HA6 := Lib.hid (HA5.out.below hb6)
  have HB6 := Lib.hid (HB5.out.trans (hb6.mono HB5.out.size))
  have hw6 := HB5.out.size
  clear hP hA5 hG5 HA4 HB4 HM4 hb6
  go_wp2_with (fail)
  refine HP.out.mono ?_
  clear HP
  rintro e w7 ⟨rfl, hA7, hG7⟩
  have HA7 := Lib.hid hA7
  have HB7 := Lib.hid (HB6.out.grown hG7 HB6.out.size (fun j e => by injection e with e; omega))
  have HM7 := Lib.hid (HM6.out.turned HA6.out.map hG7)
  have hb8 : Below w7.heap.size w7 (w7.alloc (.cells (ev [⟨2, 7⟩, ⟨5, 3⟩]).toArray 38)) := (Below.refl _ _).alloc (Nat.le_refl _) _
  have h10 := Lib.hid (rsame_calls A (some ⟨w7.heap.size, 0, none⟩) [⟨2, 7⟩, ⟨5, 3⟩] [⟨2, 7⟩, ⟨5, 3⟩] c 2 _ (HM7.out.on hb8).cel (cells_rows (heap_alloc_new w7 _)) (by decide) (by decide))
  rw [rowsB_self] at h10
  have HB8 := Lib.hid (HB7.out.trans (hb8.mono HB7.out.size))
  have HA8 := Lib.hid (HA7.out.below hb8)
  clear hA7 hG7 HA6 HB6 HM6 hb8 HA5 HB5 HM5
  go_wp2_with (fail)
  refine h10.out.mono ?_
  rintro e w' ⟨rfl, q, rfl⟩
  have h11 := Lib.hid (load_calls (HA8.out.below (below_drewN (Below.refl _ _) q)) 5 9 (by decide) (by decide))
  have h12 := Lib.hid (len_calls (HA8.out.below (below_drewN (Below.refl _ _) q)))
  rw [show loadT [⟨2, 7⟩] 5 9 = 9 by decide] at h11
  go_wp2_with (fail)
  refine h11.out.mono ?_
  rintro e w' ⟨rfl, rfl⟩
  go_wp2_with (fail)
  refine h12.out.mono ?_
  rintro e w' ⟨rfl, rfl⟩
  go_wp2_with (fail)
  go_ret
  exact ⟨rfl, below_drewN HB8.out q⟩
end Go.Proofs.Ytphjppnkackmmaa
