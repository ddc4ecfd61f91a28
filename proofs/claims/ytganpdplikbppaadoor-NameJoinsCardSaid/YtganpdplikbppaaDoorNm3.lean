/- strings.ContainsAny at the two bytes that no name has, over any text; name.Check. -/
import Derived.Test.YtganpdplikbppaaDoorNm2
import Derived.Lib.OthersKept
import Derived.Lib.Builder
set_option linter.unusedSimpArgs false
set_option linter.unusedVariables false
namespace Go.Proofs.YtganpdplikbppaaDoor
open Go.RowKit Go.Lib

theorem below_iter {B k : Nat} {a w : World} (h : Below B a w) (hk : B ≤ k) (s : ByteArray) (pos : Nat) : Below B a (w.iterAt k s pos) :=
  ⟨h.os, h.tape, h.output, by have := h.size; simpa [World.iterAt] using this, fun i hi => by
    rw [← h.block i hi]
    show (w.heap.setIfInBounds k _)[i]? = _
    exact Array.getElem?_setIfInBounds_ne (by omega)⟩
theorem decodeN_high (n b0 b1 b2 b3 : Nat) (hn : 1 ≤ n) (hb : 128 ≤ b0) (h0 : b0 < 256) : 128 ≤ (decodeN n b0 b1 b2 b3).1 ∧ Lib.validRune ((decodeN n b0 b1 b2 b3).1 : Int) = true ∧ (decodeN n b0 b1 b2 b3).1 ≤ 1114111 ∧
    1 ≤ (decodeN n b0 b1 b2 b3).2 ∧ (decodeN n b0 b1 b2 b3).2 ≤ n ∧ (decodeN n b0 b1 b2 b3).2 ≤ 4 ∧ (2 ≤ (decodeN n b0 b1 b2 b3).2 → 128 ≤ b1) ∧ (3 ≤ (decodeN n b0 b1 b2 b3).2 → 128 ≤ b2) ∧ (4 ≤ (decodeN n b0 b1 b2 b3).2 → 128 ≤ b3) := by
  unfold decodeN Lib.validRune
  simp only [decide_eq_true_eq]
  repeat' split
  all_goals (simp only []; omega)
theorem get_list (s : ByteArray) (i : Nat) : s.get! i = s.data.toList.getD i 0 := by
  cases s with | mk d => show d[i]! = _; simp [Array.getElem!_eq_getD, List.getD_eq_getElem?_getD]; rfl
/-- A byte of 128 or more begins a rune of bytes of 128 or more. -/
theorem high_rune (s : ByteArray) (i : Nat) (h : i < s.size) (hb : 128 ≤ (s[i]'h).toNat) : 128 ≤ (Utf8.decode s i).1 ∧ Lib.validRune ((Utf8.decode s i).1 : Int) = true ∧ (Utf8.decode s i).1 ≤ 1114111 ∧
    1 ≤ (Utf8.decode s i).2 ∧ i + (Utf8.decode s i).2 ≤ s.size ∧ ∀ j, i ≤ j → j < i + (Utf8.decode s i).2 → 128 ≤ (s.data.toList.getD j 0).toNat := by
  have e0 : s.get! i = s[i]'h := get_at s i h
  have k := decodeN_high (s.size - i) (s.get! i).toNat (s.get! (i + 1)).toNat (s.get! (i + 2)).toNat (s.get! (i + 3)).toNat (by omega) (by rw [e0]; exact hb) (UInt8.toNat_lt _)
  rw [← decode_at] at k
  obtain ⟨k1, k2, k3, k4, k5, k6, k7, k8, k9⟩ := k
  refine ⟨k1, k2, k3, k4, by omega, fun j h1 h2 => ?_⟩
  rw [← get_list]
  rcases (show j = i ∨ j = i + 1 ∨ j = i + 2 ∨ j = i + 3 by omega) with rfl | rfl | rfl | rfl
  · rw [e0]; exact hb
  · exact k7 (by omega)
  · exact k8 (by omega)
  · exact k9 (by omega)
theorem NoAny.more {l : List UInt8} {i n : Nat} (h : NoAny l [0, 47] i) (hn : ∀ j, i ≤ j → j < i + n → 128 ≤ (l.getD j 0).toNat) : NoAny l [0, 47] (i + n) := fun j b hj hb => by
  by_cases hlt : j < i
  · exact h j b hlt hb
  · have := hn j (by omega) hj
    rw [List.getD_eq_getElem?_getD, hb, Option.getD_some] at this
    have e1 : b ≠ 0 := by rintro rfl; revert this; decide
    have e2 : b ≠ 47 := by rintro rfl; revert this; decide
    simp [e1, e2]
set_option maxRecDepth 100000 in
set_option maxHeartbeats 4000000 in
theorem any_short (s : ByteArray) (w : World) (h8 : s.size ≤ 8) :
    Calls Tryd.prog 31 #[.string s, .string ⟨#[0, 47]⟩] w fun e w' => e = .returned (.int .i64 (indexAny s.data.toList [0, 47])) ∧ Below w.heap.size w w' := by
  have h8z : decide ((8 : Int) < (s.size : Int)) = false := decide_eq_false (by omega)
  go_enter Tryd.func31, Tryd.ntmps31
  go_wp2_with (go_at_call 43; refine (Tryd.strings_shouldUseASCIISet _ _).mono ?_; rintro e w' ⟨rfl, hw⟩; rw [hw, h8z])
  go_loopg [9, 10] s.size (fun g _ _ wx => ∃ i : Nat, i + g = s.size ∧ (wx.heap[w.heap.size]? = some (.stringIter s i) ∧ Below w.heap.size w wx) ∧ NoAny s.data.toList [0, 47] i)
  case atStart => exact ⟨0, by omega, ⟨World.iter_heap w s 0, (Below.refl _ _).alloc (Nat.le_refl _) _⟩, NoAny.zero _ _⟩
  case round =>
    obtain ⟨i, hig, ⟨hit, hbl⟩, hno⟩ := hrel
    have HN := Lib.hid hno
    have HB := Lib.hid hbl
    clear hno hbl
    cases gk with
    | zero =>
      obtain rfl : i = s.size := by omega
      have hnx := fun ty => run_next_end_at (P := Tryd.prog) wr w.heap.size s s.size ty hit (by omega)
      go_wp2_with (fail)
      go_ret
      exact ⟨by rw [indexAny_none (by rw [← size_eq]; exact HN.out)]; rfl, HB.out⟩
    | succ g =>
      have hi : i < s.size := by omega
      have hlt := (Array.getElem?_eq_some_iff.1 hit).1
      by_cases hx : (s[i]'hi).toNat < 128
      · obtain ⟨x, hxe⟩ : ∃ x : UInt8, s[i]'hi = x := ⟨_, rfl⟩
        have hxl : s.data.toList[i]? = some x := by rw [← hxe]; exact data_getElem? s i hi
        have hnx := fun ty => run_next_ascii_at (P := Tryd.prog) wr w.heap.size s i ty hit hi hx
        rw [hxe] at hnx hx
        have hit' := iterAt_heap wr w.heap.size s i (i + 1) hit
        have hb' : Below w.heap.size w (wr.iterAt w.heap.size s (i + 1)) := below_iter HB.out (Nat.le_refl _) s _
        have HB' := Lib.hid hb'
        have Hx := Lib.hid hxl
        clear hb' hxl hxe
        generalize wr.iterAt w.heap.size s (i + 1) = W at *
        have hcon := contains_iff_indexByte [0, 47] x
        have hback : ((x.toNat : Int)).toNat.toUInt8 = x := by simp
        cases hin : ([0, 47] : List UInt8).contains x
        · rw [hin] at hcon
          have hneg : indexByte [0, 47] x < 0 := by have := of_decide_eq_false hcon.symm; omega
          clear hcon
          go_wp2_with (go_at_call 42; refine (Tryd.strings_IndexRune_ascii _ _ _ (by omega) (by omega)).mono ?_; rintro e w' ⟨rfl, hw⟩; rw [hw, hback])
          go_roundg g
          case measure => omega
          case rel => exact ⟨i + 1, by omega, ⟨hit', HB'.out⟩, HN.out.succ Hx.out hin⟩
        · rw [hin] at hcon
          have hge : (0 : Int) ≤ indexByte [0, 47] x := of_decide_eq_true hcon.symm
          clear hcon
          go_wp2_with (go_at_call 42; refine (Tryd.strings_IndexRune_ascii _ _ _ (by omega) (by omega)).mono ?_; rintro e w' ⟨rfl, hw⟩; rw [hw, hback])
          go_ret
          exact ⟨by rw [indexAny_hit HN.out Hx.out hin]; rfl, HB'.out⟩
      · obtain ⟨k1, k2, k3, k4, k5, k6⟩ := high_rune s i hi (by omega)
        have hnx := fun ty => run_next_any_at (P := Tryd.prog) wr w.heap.size s i ty hit hi
        have hit' := iterAt_heap wr w.heap.size s i (i + (Utf8.decode s i).2) hit
        have hb' : Below w.heap.size w (wr.iterAt w.heap.size s (i + (Utf8.decode s i).2)) := below_iter HB.out (Nat.le_refl _) s _
        have HB' := Lib.hid hb'
        have H6 := Lib.hid k6
        have hlt' : w.heap.size < (wr.iterAt w.heap.size s (i + (Utf8.decode s i).2)).heap.size := (Array.getElem?_eq_some_iff.1 hit').1
        clear hb' k6 hx
        generalize hW : wr.iterAt w.heap.size s (i + (Utf8.decode s i).2) = W at *
        generalize hd : Utf8.decode s i = d at *
        obtain ⟨r, n⟩ := d
        simp only [] at *
        obtain ⟨R, hR⟩ : ∃ R : Int, (r : Int) = R := ⟨_, rfl⟩
        rw [hR] at k2
        have q1 : 128 ≤ R := by omega
        have q2 : R ≤ 1114111 := by omega
        have hcall : Calls Tryd.prog 42 #[.string ⟨#[0, 47]⟩, .int .i32 R] W fun e w' => e = .returned (.int .i64 (-1)) ∧ Below W.heap.size W w' := by
          by_cases hbad : R = 65533
          · rw [hbad]; exact rune_bad W
          · exact rune_high R W q1 q2 hbad k2
        clear hW k1 k3 hd
        go_wp2_with (go_at_call 42; refine hcall.mono ?_; rintro e w' ⟨rfl, hw⟩)
        go_roundg (s.size - (i + n))
        case measure => omega
        case rel => exact ⟨i + n, by omega, ⟨(hw.block _ hlt').trans hit', HB'.out.trans (hw.mono (by omega))⟩, NoAny.more HN.out H6.out⟩
theorem set_info : (Tryd.prog.info? 62).map (fun i => (i.zero, i.size)) = some (some (.agg (Array.replicate 256 (.bool false))), 256) := by kernel_rfl
theorem any_calls (s : ByteArray) (w : World) (hs : s.size < 4294967281) :
    Calls Tryd.prog 31 #[.string s, .string ⟨#[0, 47]⟩] w fun e w' => e = .returned (.int .i64 (indexAny s.data.toList [0, 47])) ∧ Below w.heap.size w w' := by
  by_cases h8 : s.size ≤ 8
  · exact any_short s w h8
  · refine (Any.strings_IndexAny_long Tryd.lays153 (zero_of_info set_info).1 (zero_of_info set_info).2 s ⟨#[0, 47]⟩ w (by decide) (by omega) hs (by decide) (fun j b h => ?_)).mono fun e w' ⟨h1, h2⟩ => ⟨h1, ?_⟩
    · have : b ∈ ([0, 47] : List UInt8) := List.mem_of_getElem? h
      simp only [List.mem_cons, List.mem_nil_iff, or_false] at this
      rcases this with rfl | rfl <;> decide
    · rw [h2]; exact ((Below.refl _ _).alloc (Nat.le_refl _) _).alloc (by simp) _
theorem containsAny_calls (s : ByteArray) (w : World) (hs : s.size < 4294967281) :
    Calls Tryd.prog 20 #[.string s, .string ⟨#[0, 47]⟩] w fun e w' => e = .returned (.bool (has2 s.data.toList)) ∧ Below w.heap.size w w' := by
  have hk : decide (0 ≤ indexAny s.data.toList [0, 47]) = has2 s.data.toList := containsAny_two s.data.toList 0 47
  go_enter Tryd.func20, Tryd.ntmps20
  go_wp2_with (go_at_call 31; refine (any_calls _ _ hs).mono ?_; rintro e w' ⟨rfl, hw⟩)
  go_ret
  exact ⟨rfl, hw⟩
theorem check_calls (s : ByteArray) (w : World) (hs : s.size < 4294967281) :
    Calls Tryd.prog 9 #[.string s] w fun e w' => e = .returned (.int .i64 (checkE s.data.toList)) ∧ Below w.heap.size w w' := by
  go_enter Tryd.func9, Tryd.ntmps9
  go_wp2_with (go_at_call 20; refine (containsAny_calls _ _ hs).mono ?_; rintro e w' ⟨rfl, hw⟩)
  · have k := check_empty (s := s) (by assumption)
    go_ret; exact ⟨by rw [k]; rfl, Below.refl _ _⟩
  · have k := check_bytes (s := s) (by assumption) (by assumption)
    go_ret; exact ⟨by rw [k]; rfl, by assumption⟩
  · have k := check_long (s := s) (by assumption) (by assumption) (by assumption)
    go_ret; exact ⟨by rw [k]; rfl, by assumption⟩
  · have k := check_fine (s := s) (by assumption) (by assumption) (by assumption)
    go_ret; exact ⟨by rw [k]; rfl, by assumption⟩
end Go.Proofs.YtganpdplikbppaaDoor
