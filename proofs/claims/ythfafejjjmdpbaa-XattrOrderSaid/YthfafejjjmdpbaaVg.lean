/- slices.Grow of nothing, slices.Concat of two rows of keys and values. -/
import Derived.Test.YthfafejjjmdpbaaVs
import Derived.Lib.AppendZerosOnto
set_option linter.unusedSimpArgs false
set_option linter.unusedVariables false
namespace Go.Proofs.Ythfafejjjmdpbaa
open Go.RowKit Go.Lib
set_option maxRecDepth 100000 in
theorem run_grow0 (n : Nat) (hn : 0 < n) (hl : n ≤ 1099511627776) (w : World) (ty : TypeId) :
    ∃ G w', (Builtin.append_ #[22, 3] ty #[.slice none 0 0, .int .i64 n]).run Try.prog w = .ok (.slice (some ⟨w.heap.size, 0, none⟩) n G) w' ∧ n ≤ G ∧ G ≤ maxLen ∧ MineX w w' (some ⟨w.heap.size, 0, none⟩) 0 G [] ∧ Below w.heap.size w w' := by
  obtain ⟨i0, hi, hz0, hz1, hz2⟩ := info_parts xattr_info
  have hb : n * 32 ≤ 140737488355328 := by omega
  have h := Lib.run_append_grow_zeros (P := Try.prog) w 22 3 ty 42 i0 _ .i64 .i64 Try.underlying22 Try.underlying3 hi hz0 none 0 0 [] (run_firstCells_none w.drew i0.size 0 0 0) n hn (by rw [hz1]; decide) (by omega) (by omega) (by rw [hz2]; omega) (by rw [hz2]; exact growslice_fits (by omega) (by rw [Nat.zero_add]; exact hb))
  rw [Nat.zero_add] at h
  have hge := grownCap_ge w n 0 42
  have hle := grownCap_le_maxLen w n 0 42 (by unfold maxLen; omega)
  refine ⟨_, _, h, hge, hle, ⟨⟨rfl, Nat.zero_le _, hle, .inr ⟨w.heap.size, _, rfl, heap_alloc_new w.drew _, ?_, ?_⟩⟩, fun ad e => by injection e with e; subst e; exact Nat.le_refl _⟩, ⟨rfl, rfl, rfl, by simp, fun k hk => Below.heap_alloc w.drew _ k hk⟩⟩
  · simp only [Array.size_append, List.size_toArray, size_zeroCells, List.length_nil]
    have e2 : (Value.agg #[.string ⟨#[]⟩, .string ⟨#[]⟩]).cells.size = 2 := rfl
    rw [e2]
    omega
  · simp [xv]
theorem wpList_grow0 {w : World} {ops : Array Oper} {rest : List Oper} {o : Oper} {a : Act} {Q : Exit → Act → World → Prop} (hgd : o.guard = none) (s x : Operand)
    (ho : o.op = .call { callee := .builtin .append, args := #[s, x], argTypes := #[22, 3] }) (hs : a.eval s = .slice none 0 0) (n : Nat) (hx : a.eval x = .int .i64 n) (hn : 0 < n) (hl : n ≤ 1099511627776)
    (h : ∀ g G w', n ≤ G → G ≤ 9223372036854775807 → MineX w w' (some ⟨g, 0, none⟩) 0 G [] → Below w.heap.size w w' → wpList Try.prog ops Q rest (a.put o.dst (.slice (some ⟨g, 0, none⟩) n G)) w') : wpList Try.prog ops Q (o :: rest) a w :=
  wpList_plain hgd fun _ hK => by
    obtain ⟨G, w', hrun, h1, h2, h3, h4⟩ := run_grow0 n hn hl w o.type
    unfold Oper.wp execOp
    simp only [ho, resolve, invoke, builtin, Sem.run_bind, Sem.run_pure, Result.andThen_ok, List.map_toArray, List.map_cons, List.map_nil, hs, hx, hrun]
    exact hK _ _ (h _ G w' h1 (by unfold maxLen at h2; omega) h3 h4)
set_option maxRecDepth 100000 in
theorem grow_calls (n : Nat) (hl : n ≤ 1099511627776) (w : World) :
    Calls Try.prog 35 #[.slice none 0 0, .int .i64 n] w fun e w' => ∃ B c, e = .returned (.slice B 0 c) ∧ MineX w w' B 0 c [] ∧ Below w.heap.size w w' := by
  rcases Nat.eq_zero_or_pos n with hn | hn
  · subst hn
    go_enter Try.func35, Try.ntmps35
    go_wp2_with (fail)
    go_ret
    exact ⟨none, 0, rfl, mine_nil _ _, Below.refl _ _⟩
  · have hn' : ¬ n = 0 := by omega
    go_enter Try.func35, Try.ntmps35
    go_wp2_with (at_builtin; refine wpList_grow0 rfl (.tmp 20) (.tmp 21) rfl rfl n rfl hn hl ?_; intro g G w1 hg1 hg2 hM hB; have hG0 : ¬ G = 0 := by omega)
    go_ret
    exact ⟨_, _, rfl, hM, hB⟩
/-- What is put together so far. -/
def acc2 (X Z : List Xt) (k : Nat) : List Xt := if k = 0 then [] else if k = 1 then X else X ++ Z
theorem two_rows {w : World} {g : Nat} {u v : Value} (h : w.heap[g]? = some (.cells #[u, v] 22 (0, 0))) : w.cell? ⟨g, 0, none⟩ = some u ∧ w.cell? ⟨g, 1, none⟩ = some v := ⟨cell_of_row w g 0 _ _ (0, 0) h, cell_of_row w g 1 _ _ (0, 0) h⟩
set_option maxRecDepth 100000 in
set_option maxHeartbeats 2000000 in
theorem concat_calls (g : Nat) (A B : Option Addr) (X Z : List Xt) (w : World) (hg : w.heap[g]? = some (.cells #[.slice A X.length X.length, .slice B Z.length Z.length] 22 (0, 0))) (hA : Cel w A (xv X)) (hB : Cel w B (xv Z)) (hl : X.length + Z.length ≤ 1000) :
    Calls Try.prog 28 #[.slice (some ⟨g, 0, none⟩) 2 2] w fun e w' => ∃ C c, e = .returned (.slice C (X ++ Z).length c) ∧ MineX w w' C (X ++ Z).length c (X ++ Z) ∧ Below w.heap.size w w' := by
  obtain ⟨x, hx⟩ : ∃ x, X.length = x := ⟨_, rfl⟩
  obtain ⟨z, hz⟩ : ∃ z, Z.length = z := ⟨_, rfl⟩
  have HX := Lib.hid hx
  have HZ := Lib.hid hz
  have HG := Lib.hid hg
  have HA := Lib.hid hA
  have HB := Lib.hid hB
  have hgl : g < w.heap.size := lt_of_cells hg
  obtain ⟨c0, c1⟩ := two_rows hg
  rw [hx] at c0
  rw [hz] at c1
  rw [hx, hz] at hl
  rw [hx, hz] at HG
  clear hg hA hB hx hz
  go_enter Try.func28, Try.ntmps28
  go_wp2_with (fail)
  go_loopw [3, 11] (fun s i wr => ∃ k m : Nat, i = .int .i64 k ∧ k ≤ 2 ∧ s = .int .i64 m ∧ m ≤ 1000 ∧ (k = 0 → m = 0) ∧ (k = 1 → m = x) ∧ (k = 2 → m = x + z) ∧ wr = w) (fun _ i _ => 2 - (intOf i).toNat)
  case atStart => exact ⟨0, 0, rfl, by omega, rfl, by omega, fun _ => rfl, by omega, by omega, rfl⟩
  case round =>
    obtain ⟨k, m, rfl, hk, rfl, hm, e0, e1, e2, hw⟩ := hrel
    have hw' := hw.symm
    clear hw
    subst hw'
    obtain rfl | rfl | rfl : k = 0 ∨ k = 1 ∨ k = 2 := by omega
    · obtain rfl := e0 rfl
      clear e0 e1 e2
      go_wp2_with (fail)
      go_roundw
      case rel => exact ⟨1, x, rfl, by omega, rfl, by omega, by omega, fun _ => rfl, by omega, trivial⟩
      case measure => simp [intOf]
    · have hmx : x = m := (e1 rfl).symm
      subst hmx
      clear e0 e1 e2
      go_wp2_with (fail)
      go_roundw
      case rel => exact ⟨2, x + z, rfl, by omega, by go_num, by omega, by omega, by omega, fun _ => rfl, trivial⟩
      case measure => simp [intOf]
    · have hmx : x + z = m := (e2 rfl).symm
      subst hmx
      clear e0 e1 e2
      have cG := fun W => grow_calls (x + z) (by omega) W
      go_wp2_with (fail)
      refine (cG _).mono ?_
      rintro e w1 ⟨B1, d1, rfl, hM1, hb1⟩
      have HG1 : Hid (w1.heap[g]? = some (.cells #[.slice A x x, .slice B z z] 22 (0, 0))) := Lib.hid ((hb1.block g hgl).trans HG.out)
      have HM := Lib.hid hM1
      have HBW := Lib.hid hb1
      clear hM1 hb1 c0 c1
      go_wp2_with (fail)
      go_loopw [6, 27] (fun s i wr => ∃ (k : Nat) (C : Option Addr) (c : Nat) (M : List Xt), i = .int .i64 k ∧ k ≤ 2 ∧ s = .slice C M.length c ∧ Hid (M = acc2 X Z k) ∧ Hid (MineX w wr C M.length c M) ∧ Hid (Below w.heap.size w wr)) (fun _ i _ => 2 - (intOf i).toNat)
      case atStart => exact ⟨0, B1, d1, [], rfl, by omega, rfl, Lib.hid rfl, HM, HBW⟩
      case round =>
        obtain ⟨k, C, c, M, rfl, hk, rfl, HE, HM2, HB2⟩ := hrel
        have HG2 : Hid (wr.heap[g]? = some (.cells #[.slice A x x, .slice B z z] 22 (0, 0))) := Lib.hid ((HB2.out.block g hgl).trans HG.out)
        obtain ⟨c0, c1⟩ := two_rows HG2.out
        obtain rfl | rfl | rfl : k = 0 ∨ k = 1 ∨ k = 2 := by omega
        · have hM0 : [] = M := HE.out.symm
          subst hM0
          go_wp2_with (at_builtin; refine wpList_xmore rfl (.tmp 31) (.tmp 32) rfl w C [] _ c (by rfl) rfl HM2.out HB2.out.size A X x x HX.out.symm rfl (HA.out.below HB2.out) (by simp; omega) ?_; intro C2 c2 w2 hM3 hb3)
          go_roundw
          case rel => exact ⟨1, C2, c2, X, rfl, by omega, by rw [HX.out], Lib.hid rfl, Lib.hid (by simpa using hM3), Lib.hid (HB2.out.trans hb3)⟩
          case measure => simp [intOf]
        · have hM0 : X = M := HE.out.symm
          subst hM0
          have hXl := HX.out
          have HXL := Lib.hid hXl
          clear hXl
          go_wp2_with (at_builtin; refine wpList_xmore rfl (.tmp 31) (.tmp 32) rfl w C X _ c (by first | rfl | exact HXL.out.symm) rfl HM2.out HB2.out.size B Z z z HZ.out.symm rfl (HB.out.below HB2.out) (by have := HXL.out; omega) ?_; intro C2 c2 w2 hM3 hb3)
          go_roundw
          case rel => exact ⟨2, C2, c2, X ++ Z, rfl, by omega, by first | rfl | simp, Lib.hid rfl, Lib.hid hM3, Lib.hid (HB2.out.trans hb3)⟩
          case measure => simp [intOf]
        · have hM0 : X ++ Z = M := HE.out.symm
          subst hM0
          go_wp2_with (fail)
          go_ret
          exact ⟨C, c, by first | rfl | simp, HM2.out, HB2.out⟩
end Go.Proofs.Ythfafejjjmdpbaa
