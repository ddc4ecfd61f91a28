/- strings.IndexRune and strings.IndexAny at the two bytes that no name has, over any text. -/
import Derived.Test.YtganpdplikbppaaDoorNm1
import Derived.Laws.RangeAny
import Derived.Laws.RangeString
import Derived.Lib.DecodeN
import Derived.Deep.DeepCutAuto
import Derived.Deep.LoopGhost
import Derived.Deep.CutBlock
import Derived.WalkMore
set_option linter.unusedSimpArgs false
set_option linter.unusedVariables false
namespace Go.Proofs.YtganpdplikbppaaDoor
open Go.RowKit Go.Lib

set_option maxRecDepth 1000000 in
set_option maxHeartbeats 4000000 in
theorem rune_bad (w : World) :
    Calls Tryd.prog 42 #[.string ⟨#[0, 47]⟩, .int .i32 65533] w fun e w' => e = .returned (.int .i64 (-1)) ∧ Below w.heap.size w w' := by
  go_enter Tryd.func42, Tryd.ntmps42
  go_wp2_with (fail)
  go_loopg [5, 6] 2 (fun g _ _ wx => ∃ i : Nat, i + g = 2 ∧ wx = w.iter ⟨#[0, 47]⟩ i)
  case atStart => exact ⟨0, rfl, rfl⟩
  case round =>
    obtain ⟨i, hig, rfl⟩ := hrel
    cases gk with
    | zero =>
      obtain rfl : i = 2 := by omega
      have hnx := run_next_end (P := Tryd.prog) w ⟨#[0, 47]⟩ 2
      go_wp2_with (fail)
      go_ret
      exact ⟨rfl, (Below.refl _ _).alloc (Nat.le_refl _) _⟩
    | succ g =>
      rcases (show i = 0 ∨ i = 1 by omega) with rfl | rfl
      · have hnx := fun ty => run_next_ascii (P := Tryd.prog) w ⟨#[0, 47]⟩ 0 ty (by decide) (by decide)
        go_wp2_with (fail)
        go_roundg g
        case measure => omega
        case rel => exact ⟨1, by omega, rfl⟩
      · have hnx := fun ty => run_next_ascii (P := Tryd.prog) w ⟨#[0, 47]⟩ 1 ty (by decide) (by decide)
        go_wp2_with (fail)
        go_roundg g
        case measure => omega
        case rel => exact ⟨2, by omega, rfl⟩
/-- A call that leaves the world as it was, among drawn operations. -/
theorem quiet_left {P : Program} {f : FuncId} {args : Array Value} {w : World} {n : Nat} {v : Value}
    (h : Calls P f args (w.drewN n) fun e w' => e = .returned v ∧ w.drewN n = w') : Calls P f args (w.drewN n) fun e w'' => e = .returned v ∧ ∃ m, w'' = w.drewN m :=
  h.mono fun _ _ ⟨he, hm⟩ => ⟨he, n, hm.symm⟩
theorem enc_size (r : Int) (h1 : 128 ≤ r) : 2 ≤ (Utf8.encode r).size := by
  unfold Utf8.encode
  simp only []
  have h0 : 128 ≤ (if Utf8.valid r = true then r.toNat else Utf8.runeError) := by
    split
    · omega
    · decide
  generalize (if Utf8.valid r = true then r.toNat else Utf8.runeError) = c at *
  rw [if_neg (by omega)]
  repeat' split
  all_goals simp [ByteArray.size]
theorem enc_le (r : Int) : (Utf8.encode r).size ≤ 4 := by
  unfold Utf8.encode
  simp only []
  repeat' split
  all_goals simp [ByteArray.size]
theorem enc_two (r : Int) (h1 : 128 ≤ r) (h2 : (Utf8.encode r).size = 2) : ((Utf8.encode r)[1].toNat : Int) ≠ 47 := by
  have key : ∀ (a : ByteArray) (h : a.size = 2), a = Utf8.encode r → (a[1].toNat : Int) ≠ 47 := by
   intro a h e
   revert e
   unfold Utf8.encode
   simp only []
   have h0 : 128 ≤ (if Utf8.valid r = true then r.toNat else Utf8.runeError) := by
    split
    · omega
    · decide
   generalize (if Utf8.valid r = true then r.toNat else Utf8.runeError) = c at *
   rw [if_neg (by omega)]
   repeat' split
   · rintro rfl
     show ((UInt8.ofNat (128 + c % 64)).toNat : Int) ≠ 47
     have : (UInt8.ofNat (128 + c % 64)).toNat = 128 + c % 64 := by simp [UInt8.toNat_ofNat]; omega
     rw [this]
     omega
   · rintro rfl; simp [ByteArray.size] at h
   · rintro rfl; simp [ByteArray.size] at h
  exact key _ h2 rfl
set_option maxRecDepth 100000 in
set_option maxHeartbeats 4000000 in
theorem rune_high (r : Int) (w : World) (h1 : 128 ≤ r) (h2 : r ≤ 1114111) (h3 : r ≠ 65533) (h4 : Lib.validRune r = true) :
    Calls Tryd.prog 42 #[.string ⟨#[0, 47]⟩, .int .i32 r] w fun e w' => e = .returned (.int .i64 (-1)) ∧ Below w.heap.size w w' := by
  have q0 : 0 ≤ r := by omega
  have q1 : (r == 65533) = false := by rw [beq_eq_false_iff_ne]; omega
  obtain ⟨E, hE⟩ : ∃ E, Utf8.encode r = E := ⟨_, rfl⟩
  have hs : 2 ≤ E.size := by rw [← hE]; exact enc_size r h1
  have hs4 : (E.size : Int) ≤ 4 := by have := enc_le r; rw [hE] at this; omega
  have h47 : ∀ h : E.size = 2, (E[1].toNat : Int) ≠ 47 := by subst hE; exact enc_two r h1
  have hv := (Tryd.utf8_ValidRune r w)
  rw [h4] at hv
  clear h4
  go_enter Tryd.func42, Tryd.ntmps42
  by_cases h5 : E.size = 2
  · have h6 : (E.size : Int) = 2 := by omega
    replace h47 := h47 h5
    have hx : (((⟨#[0, 47]⟩ : ByteArray)[1].toNat : Int) != (E[1].toNat : Int)) = true := by rw [bne_iff_ne]; exact fun e => h47 e.symm
    go_upto_region 1 with (go_at_call 52; refine hv.mono ?_; rintro e w' ⟨rfl, rfl⟩)
    go_step3
    go_wp2_with (fail)
    go_loop [9] (fun i => i = .int .i64 1) (fun _ => 0)
    case atStart => simp [h6]
    case round =>
      obtain rfl := hrel
      go_wp2_with (fail)
      go_step3
      go_upto_region 6 with (fail)
      go_quiet (fail)
      have hbq : Below w'.heap.size w' (w'.drewN nq) := below_drewN (Below.refl _ _) _
      generalize w'.drewN nq = wq at *
      go_upto_region 7 with (fail)
      have hw2 : IntKind.i64.wrap 2 = 2 := by decide
      go_quiet ((go_at_call 51; exact quiet_left ((Tryd.strings_IndexByte _ _ _).mono fun e w1 h => ⟨h.1, h.2.symm⟩)))
      go_wp2_with (fail)
      rw [Exit.noGoto_ret]
      simp +zetaDelta only [Exit.inBlock, Exit.noGoto_ret, Exit.then]
      go_ret
      exact ⟨rfl, below_drewN hbq _⟩
  · have h6 : 3 ≤ (E.size : Int) := by omega
    clear h47
    go_upto_region 1 with (go_at_call 52; refine hv.mono ?_; rintro e w' ⟨rfl, rfl⟩)
    go_step3
    go_wp2_with (fail)
    go_loop [9] (fun i => i = .int .i64 ((E.size : Int) - 1)) (fun _ => 0)
    case atStart => rfl
    case round =>
      obtain rfl := hrel
      go_wp2_with (fail)
      go_ret
      exact ⟨rfl, Below.refl _ _⟩
end Go.Proofs.YtganpdplikbppaaDoor
