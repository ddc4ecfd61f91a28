/- The program's table: New, Len, Load, Done, Put. -/
import Derived.Test.YtphjppnkackmmaaZa
import Derived.StillTailTactics
set_option linter.unusedSimpArgs false
set_option linter.unusedVariables false
namespace Go.Proofs.Ytphjppnkackmmaa
open Go Go.Maps Go.RowKit SumMath WordMath
theorem new_calls (w : World) : Calls Try.prog 9 #[] w fun e w' => ∃ g b, e = .returned (.pointer (some ⟨g, 0, none⟩)) ∧ w.heap.size ≤ g ∧ w.heap.size ≤ b ∧ Ah w' g b [] ∧ Below w.heap.size w w' := by
  have hmm := @run_makeMap Try.prog
  have ho := World.ownsMap_made (H := Unit) w Try.prog 3 (plainElem Try.prog 31)
  have hA : Ah ((w.alloc (.map #[] 0)).alloc (.cells #[.map (some w.heap.size)] 52)) (w.heap.size + 1) w.heap.size [] := by
    refine ⟨?_, MH.of (ho.alloc _) MapIs.made⟩
    have := heap_alloc_new (w.alloc (.map #[] 0)) (.cells #[.map (some w.heap.size)] 52)
    rw [show (w.alloc (.map #[] 0)).heap.size = w.heap.size + 1 by simp] at this
    exact this
  have HA := Lib.hid hA
  clear hA ho
  go_enter Try.func9, Try.ntmps9
  go_wp2_with (fail)
  go_ret
  exact ⟨_, _, rfl, by omega, Nat.le_refl _, HA.out, ((Below.refl _ _).alloc (Nat.le_refl _) _).alloc (by simp) _⟩
theorem len_calls {w : World} {g b : Nat} {T : List Re} (h : Ah w g b T) : Calls Try.prog 17 #[.pointer (some ⟨g, 0, none⟩)] w fun e w' => e = .returned (.int .i64 (T.length : Nat)) ∧ w = w' := by
  have c0 := h.cell
  obtain ⟨D, hown, hm⟩ := h.map
  have HM := Lib.hid hm
  clear h hm
  go_enter Try.func17, Try.ntmps17
  go_wp2_with (first | (at_len; refine wpList_len_own _ rfl _ 50 rfl 3 31 Try.underlying50 _ b T.length D rfl hown ?_))
  go_ret
  rw [HM.out.size]
  exact ⟨rfl, rfl⟩
theorem load_at {D : DataW Unit} {T : List Re} (m : MapIs D T) {p : Int} {c : Int} {d : Nat} (hat : D.atKey (kI p) (.lit (.int .u64 0)) = .lit (.int .u64 c)) (h : hasT T p = true) : c = (loadT T p d : Nat) := by
  unfold hasT at h
  obtain ⟨x, hx⟩ := Option.isSome_iff_exists.1 h
  rw [m.at' p x _ hx] at hat
  unfold loadT
  rw [hx]
  injection hat with hat
  injection hat with _ hat
  exact hat.symm
theorem load_not {T : List Re} {p : Int} {d : Nat} (h : hasT T p = false) : loadT T p d = d := by
  unfold hasT at h
  unfold loadT
  cases hl : lkT T p with
  | none => rfl
  | some x => rw [hl] at h; cases h
theorem load_calls {w : World} {g b : Nat} {T : List Re} (h : Ah w g b T) (p : Int) (d : Nat) (h0 : -9223372036854775808 ≤ p) (h1 : p ≤ 9223372036854775807) :
    Calls Try.prog 15 #[.pointer (some ⟨g, 0, none⟩), .int .i64 p, .int .u64 (d : Nat)] w fun e w' => e = .returned (.int .u64 (loadT T p d : Nat)) ∧ w = w' := by
  have c0 := h.cell
  obtain ⟨D, hown, hm⟩ := h.map
  have hk := Lib.hid (key_i64 h0 h1)
  have hh := hm.has p
  have HM := Lib.hid hm
  clear h hm h0 h1
  cases hp : hasT T p with
  | true =>
    rw [hp] at hh
    have HP := Lib.hid hp
    clear hp
    go_enter Try.func15, Try.ntmps15
    go_wp2_with (first | (at_lookup; refine wpList_lookup_own_ok_int _ rfl _ _ 50 rfl 3 31 .u64 kInt Try.underlying50 Try.underlying31 (zeroU _) b T.length D rfl hown _ _ rfl hk.out ?_; intro c hat hwc; rw [hh]; replace hat := Lib.hid hat; clear hwc))
    go_ret
    obtain rfl := load_at (d := d) HM.out hat.out HP.out
    exact ⟨rfl, rfl⟩
  | false =>
    rw [hp] at hh
    have HP := Lib.hid hp
    clear hp
    go_enter Try.func15, Try.ntmps15
    go_wp2_with (first | (at_lookup; refine wpList_lookup_own_ok_int _ rfl _ _ 50 rfl 3 31 .u64 kInt Try.underlying50 Try.underlying31 (zeroU _) b T.length D rfl hown _ _ rfl hk.out ?_; intro c hat hwc; rw [hh]; replace hat := Lib.hid hat; clear hwc))
    go_ret
    exact ⟨congrArg (fun z : Nat => Ending.returned (.int .u64 (z : Int))) (load_not HP.out).symm, rfl⟩
theorem done_calls {w : World} {g b : Nat} {T : List Re} (h : Ah w g b T) (p : Int) (h0 : -9223372036854775808 ≤ p) (h1 : p ≤ 9223372036854775807) :
    Calls Try.prog 13 #[.pointer (some ⟨g, 0, none⟩), .int .i64 p] w fun e w' => e = .returned (.int .i64 (doneE T p)) ∧ Ah w' g b (delT T p) ∧ w.grownBy w' (some b) := by
  have c0 := h.cell
  have HH := Lib.hid h
  obtain ⟨D, hown, hm⟩ := h.map
  have hk := Lib.hid (key_i64 h0 h1)
  have hh := hm.has p
  have HM := Lib.hid hm
  clear h hm h0 h1
  cases hp : hasT T p with
  | true =>
    rw [hp] at hh
    have HP := Lib.hid hp
    clear hp
    go_enter Try.func13, Try.ntmps13
    go_wp2_with (first | (at_lookup; refine wpList_lookup_own_ok_int _ rfl _ _ 50 rfl 3 31 .u64 kInt Try.underlying50 Try.underlying31 (zeroU _) b T.length D rfl hown _ _ rfl hk.out ?_; intro c hat hwc; rw [hh]; clear hat hwc) | (at_delete; refine wpList_delete_own _ rfl _ _ 50 3 rfl 31 kInt Try.underlying50 _ b T.length D rfl hown _ _ rfl hk.out ?_; intro w1 hown1 hturn1; replace hturn1 := Lib.hid hturn1))
    go_ret
    refine ⟨?_, HH.out.turn hturn1.out.grown (MH.of hown1 (HM.out.del p)), hturn1.out.grown⟩
    unfold doneE
    rw [HP.out]; rfl
  | false =>
    rw [hp] at hh
    have HP := Lib.hid hp
    clear hp
    go_enter Try.func13, Try.ntmps13
    go_wp2_with (first | (at_lookup; refine wpList_lookup_own_ok_int _ rfl _ _ 50 rfl 3 31 .u64 kInt Try.underlying50 Try.underlying31 (zeroU _) b T.length D rfl hown _ _ rfl hk.out ?_; intro c hat hwc; rw [hh]; clear hat hwc))
    go_ret
    rw [del_none HP.out]
    refine ⟨?_, HH.out, ⟨rfl, rfl, rfl, Nat.le_refl _, fun _ _ _ => rfl⟩⟩
    unfold doneE
    rw [HP.out]; rfl
end Go.Proofs.Ytphjppnkackmmaa
