/- Lines of kinds; where a kind begins; Lines. -/
import Derived.Test.YthimikdhdcjneaaGeo1
namespace Go.Proofs.Ythimikdhdcjneaa
open Go.RowKit
/-- A block of a geometry. -/
def Bx (w : World) (b : Nat) (P I B : Int) : Prop := w.heap[b]? = some (.cells #[.int .i64 P, .int .i64 I, .int .i64 B] 23 (0, 0))
section
variable {w w' : World} {b : Nat} {P I B : Int}
theorem Bx.new (w : World) (P I B : Int) : Bx (w.alloc (.cells #[.int .i64 P, .int .i64 I, .int .i64 B] 23)) w.heap.size P I B := heap_alloc_new w _
theorem Bx.lt (h : Bx w b P I B) : b < w.heap.size := lt_of_cells h
theorem Bx.below {k : Nat} (h : Bx w b P I B) (hb : Below k w w') (hk : b < k) : Bx w' b P I B := (hb.block b hk).trans h
theorem Bx.later {o : Obj} (hb : Below (w.alloc o).heap.size (w.alloc o) w') (ho : o = .cells #[.int .i64 P, .int .i64 I, .int .i64 B] 23) : Bx w' w.heap.size P I B := by
  subst ho
  exact (Bx.new w P I B).below hb (by simp)
theorem Bx.cells (h : Bx w b P I B) : w.cell? ⟨b, 0, none⟩ = some (.int .i64 P) ∧ w.cell? ⟨b, 1, none⟩ = some (.int .i64 I) ∧ w.cell? ⟨b, 2, none⟩ = some (.int .i64 B) := three_cells h
end
/-- Kinds as cells. -/
def kv (l : List Nat) : List Value := l.map fun (x : Nat) => Value.int .u8 (x : Int)
theorem kv_length (l : List Nat) : (kv l).length = l.length := by simp [kv]
theorem kv_get (l : List Nat) (k : Nat) (h : k < l.length) : (kv l)[k]? = some (.int .u8 ((l.getD k 0 : Nat) : Int)) := by
  simp [kv, List.getElem?_map, List.getD_eq_getElem?_getD, List.getElem?_eq_getElem h]
/-- Lines of one kind, of some. -/
def linesK (P I B k : Nat) : Nat := rowC P I B k * rowW k / 8
def linesL (P I B : Nat) (l : List Nat) : Nat := (l.map (linesK P I B)).sum
theorem row_le (P I B k : Nat) (hP : P ≤ 8) (hI : I ≤ 64) (hB : B ≤ 255) : rowC P I B k * rowW k ≤ 8160 := by
  unfold rowC rowW
  by_cases h3 : k = 3
  · simp [h3]; omega
  · by_cases h4 : k = 4
    · simp [h4]; omega
    · by_cases h5 : k = 5
      · simp [h5]; omega
      · simp [h3, h4, h5]
theorem linesL_step (P I B : Nat) (l : List Nat) (k : Nat) (h : k < l.length) : linesL P I B (l.take (k + 1)) = linesL P I B (l.take k) + linesK P I B (l.getD k 0) := by
  unfold linesL
  rw [List.take_succ_eq_append_getElem h, List.map_append, List.sum_append]
  simp only [List.getD_eq_getElem?_getD, List.getElem?_eq_getElem h, Option.getD_some, List.map_cons, List.map_nil, List.sum_cons, List.sum_nil, Nat.add_zero]
theorem lines_calls (P I B : Nat) (l : List Nat) (A : Option Addr) (c : Nat) (w : World) (hr : Cel w A (kv l)) (hl : ∀ k, k < l.length → l.getD k 0 ≤ 5) (hlen : l.length ≤ 5) (hP : P ≤ 8) (hI : I ≤ 64) (hB : B ≤ 255) :
    Calls Try.prog 20 #[gv P I B, .slice A l.length c] w fun e w' => e = .returned (.int .i64 (linesL P I B l : Nat)) ∧ Below w.heap.size w w' := by
  have HL := Lib.hid hl
  clear hl
  go_enter Try.func20, Try.ntmps20
  go_wp2
  go_loopw [5, 11] (fun s i wr => ∃ k q : Nat, i = .int .i64 k ∧ k ≤ l.length ∧ s = .int .i64 q ∧ Hid (q = linesL P I B (l.take k)) ∧ q ≤ 1020 * k ∧ Bx wr w.heap.size P I B ∧ Below w.heap.size w wr) (fun _ i _ => l.length - (intOf i).toNat)
  case atStart => exact ⟨0, 0, rfl, Nat.zero_le _, rfl, rfl, by omega, Bx.new _ _ _ _, (Below.refl _ _).alloc (Nat.le_refl _) _⟩
  case round =>
    obtain ⟨k, q, rfl, hk, rfl, hq, hq2, hbx, hbw⟩ := hrel
    obtain ⟨b0, b1, b2⟩ := hbx.cells
    by_cases hlt : k < l.length
    · obtain ⟨ad, rfl, hadl, hc⟩ := (hr.below hbw) (by rw [kv_length]; omega)
      have hkc := hc k _ (kv_get l k hlt)
      have hs := linesL_step P I B l k hlt
      have hk5 := HL.out k hlt
      generalize hkk : l.getD k 0 = kk at *
      clear hkk hc
      have HS := Lib.hid hs
      have hm := row_le P I B kk hP hI hB
      have hrow := fun W => rowOf_calls P I B kk W hk5
      have hd : Hid (linesK P I B kk = rowC P I B kk * rowW kk / 8) := Lib.hid rfl
      unfold rowV at hrow
      generalize rowC P I B kk = rc at *
      generalize rowW kk = rw' at *
      generalize rowF kk = rf at *
      clear hs
      obtain ⟨z, hz⟩ : ∃ z : Nat, z = rc * rw' := ⟨_, rfl⟩
      have hz2 : (rc : Int) * (rw' : Int) = (z : Int) := by rw [hz]; simp
      have hz3 : z ≤ 8160 := by omega
      have HZ := Lib.hid hz
      have HR := Lib.hid hrow
      clear hrow hz hm
      go_wp2_with (fail)
      refine (HR.out wr).mono ?_
      rintro e w1 ⟨rfl, hb1⟩
      go_wp2
      have hqe : q + z / 8 = linesL P I B (l.take (k + 1)) := by rw [HS.out, hd.out, ← HZ.out, ← hq.out]
      go_roundw
      case rel => exact ⟨k + 1, q + z / 8, by go_num, by omega, by go_num, hqe, by omega, hbx.below (hb1.alloc hb1.size _) hbx.lt, hbw.trans ((hb1.alloc hb1.size _).mono hbw.size)⟩
      case measure => simp [intOf]; omega
    · obtain rfl : k = l.length := by omega
      have HQ : Hid (q = linesL P I B l) := by have := hq.out; rw [List.take_length] at this; exact this
      clear hq
      go_wp2
      go_ret
      exact ⟨by rw [HQ.out]; rfl, hbw⟩
theorem cel_new (w : World) (xs : List Value) (e : TypeId) : Cel (w.alloc (.cells xs.toArray e)) (some ⟨w.heap.size, 0, none⟩) xs := fun _ =>
  ⟨_, rfl, by simp, fun j u hu => by rw [add_zero_block, cell_of_row _ _ j _ e (0, 0) (heap_alloc_new w _), List.getElem?_toArray, hu]⟩
theorem lines_lit (P I B : Nat) (l : List Nat) (w : World) (xs : Array Value) (n g : Nat) (hx : xs = (kv l).toArray) (hn : n = l.length) (hg : g = w.heap.size) (hl : ∀ k, k < l.length → l.getD k 0 ≤ 5) (hlen : l.length ≤ 5) (hP : P ≤ 8) (hI : I ≤ 64) (hB : B ≤ 255) :
    Calls Try.prog 20 #[gv P I B, .slice (some ⟨g, 0, none⟩) n n] (w.alloc (.cells xs 5)) fun e w' => e = .returned (.int .i64 (linesL P I B l : Nat)) ∧ Below w.heap.size w w' := by
  subst hx hn hg
  exact (lines_calls P I B l _ l.length _ (cel_new w (kv l) 5) hl hlen hP hI hB).mono fun _ _ ⟨he, hb⟩ => ⟨he, ((Below.refl _ _).alloc (Nat.le_refl _) _).trans (hb.mono (by simp))⟩
/-- The kinds ahead of one. -/
def ahead (k : Nat) : List Nat := (List.range (k - 1)).map (· + 1)
theorem begin_calls (P I B : Nat) (k : Nat) (w : World) (h1 : 1 ≤ k) (h5 : k ≤ 5) (hP : P ≤ 8) (hI : I ≤ 64) (hB : B ≤ 255) :
    Calls Try.prog 27 #[gv P I B, .int .u8 (k : Nat)] w fun e w' => e = .returned (.int .i64 (linesL P I B (ahead k) : Nat)) ∧ Below w.heap.size w w' := by
  obtain rfl | rfl | rfl | rfl | rfl : k = 1 ∨ k = 2 ∨ k = 3 ∨ k = 4 ∨ k = 5 := by omega
  · go_enter Try.func27, Try.ntmps27
    go_wp2
    go_ret
    exact ⟨rfl, (Below.refl _ _).alloc (Nat.le_refl _) _⟩
  · have C := lines_lit P I B [1] (w.alloc (.cells #[.int .i64 (P : Nat), .int .i64 (I : Nat), .int .i64 (B : Nat)] 23)) #[.int .u8 1] 1 (w.heap.size + 1) rfl rfl (by simp) (by decide) (by decide) hP hI hB
    go_enter Try.func27, Try.ntmps27
    go_wp2_with (fail)
    refine C.mono ?_
    rintro e w1 ⟨rfl, hb⟩
    go_wp2
    go_ret
    exact ⟨rfl, ((Below.refl _ _).alloc (Nat.le_refl _) _).trans (hb.mono (by simp))⟩
  · have C := lines_lit P I B [1, 2] (w.alloc (.cells #[.int .i64 (P : Nat), .int .i64 (I : Nat), .int .i64 (B : Nat)] 23)) #[.int .u8 1, .int .u8 2] 2 (w.heap.size + 1) rfl rfl (by simp) (by decide) (by decide) hP hI hB
    go_enter Try.func27, Try.ntmps27
    go_wp2_with (fail)
    refine C.mono ?_
    rintro e w1 ⟨rfl, hb⟩
    go_wp2
    go_ret
    exact ⟨rfl, ((Below.refl _ _).alloc (Nat.le_refl _) _).trans (hb.mono (by simp))⟩
  · have C := lines_lit P I B [1, 2, 3] (w.alloc (.cells #[.int .i64 (P : Nat), .int .i64 (I : Nat), .int .i64 (B : Nat)] 23)) #[.int .u8 1, .int .u8 2, .int .u8 3] 3 (w.heap.size + 1) rfl rfl (by simp) (by decide) (by decide) hP hI hB
    go_enter Try.func27, Try.ntmps27
    go_wp2_with (fail)
    refine C.mono ?_
    rintro e w1 ⟨rfl, hb⟩
    go_wp2
    go_ret
    exact ⟨rfl, ((Below.refl _ _).alloc (Nat.le_refl _) _).trans (hb.mono (by simp))⟩
  · have C := lines_lit P I B [1, 2, 3, 4] (w.alloc (.cells #[.int .i64 (P : Nat), .int .i64 (I : Nat), .int .i64 (B : Nat)] 23)) #[.int .u8 1, .int .u8 2, .int .u8 3, .int .u8 4] 4 (w.heap.size + 1) rfl rfl (by simp) (by decide) (by decide) hP hI hB
    go_enter Try.func27, Try.ntmps27
    go_wp2_with (fail)
    refine C.mono ?_
    rintro e w1 ⟨rfl, hb⟩
    go_wp2
    go_ret
    exact ⟨rfl, ((Below.refl _ _).alloc (Nat.le_refl _) _).trans (hb.mono (by simp))⟩
theorem linesL_all (P I B : Nat) : linesL P I B [1, 2, 3, 4, 5] = 2 + I + 17 * P + 4 * B := by
  simp [linesL, linesK, rowC, rowW]
  omega
theorem lines_ok (P I B : Nat) (w : World) (h : GOK P I B) : Calls Try.prog 7 #[gv P I B] w fun e w' => e = .returned (.tuple #[.int .i64 (2 + I + 17 * P + 4 * B : Nat), .int .i64 0]) ∧ Below w.heap.size w w' := by
  have C1 := check_ok P I B (w.alloc (.cells #[.int .i64 (P : Nat), .int .i64 (I : Nat), .int .i64 (B : Nat)] 23)) h
  obtain ⟨⟨h1, h2⟩, ⟨h3, h4⟩, ⟨h5, h6⟩⟩ := h
  have C2 := fun W => lines_lit P I B [1, 2, 3, 4, 5] W #[.int .u8 1, .int .u8 2, .int .u8 3, .int .u8 4, .int .u8 5] 5 W.heap.size rfl rfl rfl (by decide) (by decide) (by omega) (by omega) (by omega)
  rw [linesL_all] at C2
  generalize 2 + I + 17 * P + 4 * B = n at *
  have H1 := Lib.hid C1
  have H2 := Lib.hid C2
  clear C1 C2
  go_enter Try.func7, Try.ntmps7
  go_wp2_with (fail)
  refine H1.out.mono ?_
  rintro e w1 ⟨rfl, hb1⟩
  obtain ⟨b0, b1, b2⟩ := (Bx.later hb1 rfl).cells
  go_wp2_with (fail)
  refine (H2.out w1).mono ?_
  rintro e w2 ⟨rfl, hb2⟩
  go_wp2
  go_ret2
  have hz := hb1.size
  exact ⟨rfl, (below_alloc hb1).trans (hb2.mono (below_alloc hb1).size)⟩
theorem lines_bad (P I B : Int) (w : World) (h : ¬ GOK P I B) : Calls Try.prog 7 #[gv P I B] w fun e w' => e = .returned (.tuple #[.int .i64 0, .int .i64 2]) ∧ Below w.heap.size w w' := by
  have C1 := check_bad P I B (w.alloc (.cells #[.int .i64 P, .int .i64 I, .int .i64 B] 23)) h
  clear h
  go_enter Try.func7, Try.ntmps7
  go_wp2_with (fail)
  refine C1.mono ?_
  rintro e w1 ⟨rfl, hb1⟩
  go_wp2
  go_ret2
  exact ⟨rfl, below_alloc hb1⟩
end Go.Proofs.Ythimikdhdcjneaa
