/- The table; what update hands back. -/
import Derived.Test.YtlejmpinfbmccaaGreatDoorProg
import Derived.Test.YtlejmpinfbmccaaGreatDoorMemT
import Derived.Test.YtlejmpinfbmccaaGreatDoorMathT
import Derived.WalkKit
import Derived.WalkSpells
import Derived.WalkLawsBesides
import Derived.Lib.Hide
import Derived.Deep.QuietTactic
import Derived.BigQuiet
import Derived.Test.YtlejmpinfbmccaaGreatDoorWordT
import Derived.RangeFuncNested
import Derived.RangeFuncBound
import Derived.RangeFuncCalls
import Derived.RangeFuncLeaves
import Derived.RangeFuncBox
import Derived.Shelf.Abstract
import Derived.Shelf.RegionOpen
import Derived.OwnWalkIn
import Derived.TacticsInMore
import Derived.LoopNIn
import Derived.LoopIn
import Derived.Laws.CopyOwn
import Derived.Lib.QuietBelow
set_option linter.unusedSimpArgs false
set_option linter.unusedVariables false
set_option linter.unusedSimpArgs false
set_option linter.unusedVariables false
namespace Go.Proofs.YtlejmpinfbmccaaGreatDoor
open Go.RowKit SumMath
/-- The table lies as it is laid. -/
def TabAt (w : World) : Prop := ∀ j, j < 16 → w.cell? ⟨4, j, none⟩ = some (.int .u32 (tab.getD j 0 : Nat))
theorem TabAt.lt {w : World} (h : TabAt w) : 4 < w.heap.size := by
  have h1 := h 0 (by decide)
  rcases Nat.lt_or_ge 4 w.heap.size with h2 | h2
  · exact h2
  · exfalso
    have : w.heap[4]? = none := Array.getElem?_eq_none h2
    simp [World.cell?, this] at h1
theorem TabAt.below {w w' : World} (h : TabAt w) (hb : Below w.heap.size w w') : TabAt w' := fun j hj => by
  rw [← h j hj]
  exact hb.cell (p := ⟨4, j, none⟩) h.lt
theorem TabAt.drewN {w : World} (h : TabAt w) (n : Nat) : TabAt (w.drewN n) := h
theorem tmod_nat (x n : Nat) : (x : Int).tmod (n : Int) = ((x % n : Nat) : Int) := by
  rw [Int.tmod_eq_emod_of_nonneg (Int.natCast_nonneg _)]; simp
/-- One step by the table. -/
theorem step_key (x t : Nat) (hx : x < 4294967296) (ht : t < 4294967296) : bits .xor .u32 ((x : Int) / 16) (t : Int) = ((x / 16 ^^^ t : Nat) : Int) := by
  have e : ((x : Int) / 16) = ((x / 16 : Nat) : Int) := by simp
  rw [e, u32_xor_nat _ _ (by omega) ht]
theorem update_calls (c b : Nat) (w : World) (hc : c < 4294967296) (hb : b < 256) (hT : TabAt w) :
    Calls Tryz.prog 110 #[.int .u32 c, .int .u8 b] w fun e w' => e = .returned (.int .u32 (upd c b : Nat)) ∧ w = w' := by
  have hx : c ^^^ b < 4294967296 := Nat.xor_lt_two_pow (n := 32) hc (by omega)
  have hy : halves 4 (c ^^^ b) < 4294967296 := halves_lt32 4 hx
  have hc1 := hT ((c ^^^ b) % 16) (by omega)
  have hc2 := hT (halves 4 (c ^^^ b) % 16) (by omega)
  have k1 : bits .xor .u32 (c : Int) (b : Int) = ((c ^^^ b : Nat) : Int) := u32_xor_nat _ _ hc (by omega)
  have k2 := step_key (c ^^^ b) (tab.getD ((c ^^^ b) % 16) 0) hx (tab_lt _)
  have k3 := step_key (halves 4 (c ^^^ b)) (tab.getD (halves 4 (c ^^^ b) % 16) 0) hy (tab_lt _)
  rw [← halves_four] at k2
  rw [← upd_tab] at k3
  have m1 := tmod_nat (c ^^^ b) 16
  have m2 := tmod_nat (halves 4 (c ^^^ b)) 16
  generalize upd c b = z at *
  generalize halves 4 (c ^^^ b) = y at *
  generalize c ^^^ b = x at *
  generalize tab.getD (x % 16) 0 = t1 at *
  generalize tab.getD (y % 16) 0 = t2 at *
  have k1 := Lib.hid k1
  have k2 := Lib.hid k2
  have k3 := Lib.hid k3
  have m1 := Lib.hid m1
  have m2 := Lib.hid m2
  have n1 : x % 16 < 16 := by omega
  have n2 : y % 16 < 16 := by omega
  clear hT
  go_enter Tryz.func110, Tryz.ntmps110
  go_wp2_with (first | rw [k1.out] | rw [m1.out] | rw [m2.out] | rw [k2.out] | rw [k3.out])
  go_ret
  exact ⟨rfl, rfl⟩
theorem flip_key (c : Nat) (h : c < 4294967296) : bits .xor .u32 (IntKind.max .u32) (c : Int) = ((c ^^^ M : Nat) : Int) := by
  have := u32_xor_nat 4294967295 c (by decide) h
  rw [Nat.xor_comm c M]
  exact this
/-- c updated with the first k bytes. -/
def crcTo (c : Nat) (s : ByteArray) (k : Nat) : Nat := crc c ((bytesN s.data.toList).take k)
theorem crcTo_zero (c : Nat) (s : ByteArray) : crcTo c s 0 = c := rfl
theorem crcTo_succ (c : Nat) (s : ByteArray) (k : Nat) (h : k < s.size) : crcTo c s (k + 1) = upd (crcTo c s k) (s[k]).toNat := by
  unfold crcTo
  have hl : k < (bytesN s.data.toList).length := by simpa [bytesN] using h
  rw [List.take_succ_eq_append_getElem hl, crc_snoc]
  congr 1
  simp [bytesN]
  rfl
theorem crcTo_all (c : Nat) (s : ByteArray) : crcTo c s s.size = crc c (bytesN s.data.toList) := by
  unfold crcTo
  rw [List.take_of_length_le (by simp [bytesN])]
theorem crcTo_lt {c : Nat} (s : ByteArray) (k : Nat) (hc : c < 4294967296) : crcTo c s k < 4294967296 :=
  crc_lt hc fun b hb => bytesN_lt _ b (List.mem_of_mem_take hb)
end Go.Proofs.YtlejmpinfbmccaaGreatDoor
/- What the document's own More, Of and Words hand back. -/
set_option linter.unusedSimpArgs false
set_option linter.unusedVariables false
namespace Go.Proofs.YtlejmpinfbmccaaGreatDoor
open Go.RowKit SumMath WordMath
theorem flip_key2 (c : Nat) (h : c < 4294967296) : bits .xor .u32 (c : Int) 4294967295 = ((c ^^^ M : Nat) : Int) :=
  u32_xor_nat c 4294967295 h (by decide)
theorem halves_succ (j c : Nat) : halves (j + 1) c = half (halves j c) := by rw [halves_add]; rfl
theorem half_odd {x : Nat} (h : x % 2 = 1) (hx : x < 4294967296) : bits .xor .u32 ((x : Int) / 2) 3988292384 = ((half x : Nat) : Int) := by
  have e : ((x : Int) / 2) = ((x / 2 : Nat) : Int) := by simp
  have := u32_xor_nat (x / 2) 3988292384 (by omega) (by decide)
  rw [e]
  unfold half
  rw [if_pos h]
  exact this
theorem half_even {x : Nat} (h : ¬ x % 2 = 1) : ((x : Int) / 2) = ((half x : Nat) : Int) := by
  unfold half
  rw [if_neg h]; simp
theorem rmore_calls (c : Nat) (s : ByteArray) (w : World) (hc : c < 4294967296) (hs : s.size ≤ 1099511627776) :
    Calls Tryz.prog 73 #[.int .u32 c, .string s] w fun e w' => e = .returned (.int .u32 (moreV c (bytesN s.data.toList) : Nat)) ∧ w = w' := by
  have hfc := flip_lt hc
  have k0 := Lib.hid (flip_key2 c hc)
  have kv : Hid (crcTo (c ^^^ M) s s.size ^^^ M = moreV c (bytesN s.data.toList)) := by
    show crcTo (c ^^^ M) s s.size ^^^ M = _
    rw [crcTo_all]; rfl
  generalize c ^^^ M = c0 at *
  go_enter Tryz.func73, Tryz.ntmps73
  go_wp2_with (first | rw [k0.out])
  go_loop [0, 5] (fun x i => ∃ k : Nat, i = .int .i64 k ∧ k ≤ s.size ∧ x = .int .u32 (crcTo c0 s k : Nat)) (fun _ i => s.size - (intOf i).toNat)
  case atStart => exact ⟨0, rfl, by omega, rfl⟩
  case round =>
    obtain ⟨k, rfl, hk, rfl⟩ := hrel
    have hx := crcTo_lt s k hfc
    by_cases h1 : k < s.size
    · have ks := Lib.hid (crcTo_succ c0 s k h1)
      have hb := UInt8.toNat_lt s[k]
      have k1 := Lib.hid (u32_xor_nat (crcTo c0 s k) s[k].toNat hx (by omega))
      have hxb : crcTo c0 s k ^^^ s[k].toNat < 4294967296 := Nat.xor_lt_two_pow (n := 32) hx (by omega)
      have ku : Hid (upd (crcTo c0 s k) s[k].toNat = halves 8 (crcTo c0 s k ^^^ s[k].toNat)) := rfl
      generalize crcTo c0 s k ^^^ s[k].toNat = y at *
      go_wp2_with (first | rw [k1.out])
      go_loop [0, 6] (fun x i => ∃ j : Nat, i = .int .i64 j ∧ j ≤ 8 ∧ x = .int .u32 (halves j y : Nat)) (fun _ i => 8 - (intOf i).toNat)
      case atStart => exact ⟨0, rfl, by omega, rfl⟩
      case round =>
        obtain ⟨j, rfl, hj, rfl⟩ := hrel
        have hz := halves_lt32 j hxb
        by_cases h2 : j < 8
        · have hh := Lib.hid (halves_succ j y)
          generalize halves j y = z at *
          by_cases h3 : z % 2 = 1
          · have t1 : ((z : Int) % 2 == 1) = true := by rw [beq_iff_eq]; omega
            have t2 := Lib.hid (half_odd h3 hz)
            go_wp2_with (first | rw [t2.out])
            go_round
            case rel => exact ⟨j + 1, by go_num, by omega, by rw [hh.out]⟩
            case measure => simp [intOf]; omega
          · have t1 : ((z : Int) % 2 == 1) = false := by rw [beq_eq_false_iff_ne]; omega
            have t2 := Lib.hid (half_even h3)
            go_wp2_with (fail)
            go_round
            case rel => exact ⟨j + 1, by go_num, by omega, by rw [hh.out, t2.out]⟩
            case measure => simp [intOf]; omega
        · obtain rfl : j = 8 := by omega
          go_wp2_with (fail)
          go_round
          case rel => exact ⟨k + 1, by go_num, by omega, by rw [ks.out, ku.out]⟩
          case measure => simp [intOf]; omega
    · obtain rfl : k = s.size := by omega
      have k1 := Lib.hid (flip_key2 _ hx)
      go_wp2_with (first | rw [k1.out])
      go_ret
      rw [kv.out]
      exact ⟨rfl, rfl⟩
end Go.Proofs.YtlejmpinfbmccaaGreatDoor
/- What the document's own Words and Seal hand back. -/
namespace Go.Proofs.YtlejmpinfbmccaaGreatDoor
open Go.RowKit SumMath WordMath
theorem Wd.mem {l : List Nat} (h : Wd l) : ∀ x ∈ l, x < 18446744073709551616 := fun x hx => by
  obtain ⟨i, hi, rfl⟩ := List.getElem_of_mem hx
  have := h i
  rwa [List.getD_eq_getElem?_getD, List.getElem?_eq_getElem hi, Option.getD_some] at this
theorem Wd.of_mem {l : List Nat} (h : ∀ x ∈ l, x < 18446744073709551616) : Wd l := fun k => by
  rw [List.getD_eq_getElem?_getD]
  rcases Nat.lt_or_ge k l.length with hk | hk
  · rw [List.getElem?_eq_getElem hk, Option.getD_some]; exact h _ (List.getElem_mem hk)
  · rw [List.getElem?_eq_none hk]; decide
/-- The sum of the first k words. -/
def wordsTo (l : List Nat) (k : Nat) : Nat := wordsV (l.take k)
theorem wordsTo_zero (l : List Nat) : wordsTo l 0 = 0 := by unfold wordsTo wordsV wcrc; rw [List.take_zero, List.foldl_nil, Nat.xor_self]
theorem wordsTo_all (l : List Nat) : wordsTo l l.length = wordsV l := by unfold wordsTo; rw [List.take_length]
theorem wordsTo_lt {l : List Nat} (h : Wd l) (k : Nat) : wordsTo l k < 4294967296 := wordsV_lt fun w hw => h.mem w (List.mem_of_mem_take hw)
theorem wordsTo_succ {l : List Nat} (h : Wd l) {k : Nat} (hk : k < l.length) : wordsTo l (k + 1) = moreV (wordsTo l k) (octs (l.getD k 0) 8) := by
  unfold wordsTo wordsV moreV
  rw [List.take_succ_eq_append_getElem hk, wcrc_snoc, flip_two, wupd_octs (h k)]
  congr 2
  rw [List.getD_eq_getElem?_getD, List.getElem?_eq_getElem hk, Option.getD_some]
theorem bytes_word (x : Nat) : txtV [x] 8 = ⟨(textL [x] 8).toArray⟩ ∧ txtE [x] 8 = 0 ∧ bytesN (textL [x] 8) = octs x 8 := by
  have h : isTxt [x] 8 := ⟨by decide, by simp⟩
  refine ⟨txtV_yes h, txtE_yes h, ?_⟩
  unfold bytesN textL octs
  rw [List.map_map]
  apply List.map_congr_left
  intro k hk
  have hk8 : k < 8 := by simpa using hk
  have e1 : k / 8 = 0 := by omega
  have e2 : k % 8 = k := by omega
  simp [e1, e2, oct, fld]
theorem rwords_calls (A : Option Addr) (l : List Nat) (c : Nat) (w : World) (hr : Row w A l) (hl : Wd l) (hlen : l.length ≤ 1099511627776) :
    Calls Tryz.prog 47 #[.slice A l.length c] w fun e w' => e = .returned (.int .u32 (wordsV l : Nat)) ∧ Below w.heap.size w w' := by
  have kv := Lib.hid (wordsTo_all l)
  go_enter Tryz.func47, Tryz.ntmps47
  go_wp2_with (fail)
  go_loopw [3, 4] (fun x i wr => ∃ k : Nat, i = .int .i64 k ∧ k ≤ l.length ∧ x = .int .u32 (wordsTo l k : Nat) ∧ Below w.heap.size w wr) (fun _ i _ => l.length - (intOf i).toNat)
  case atStart => exact ⟨0, rfl, by omega, by rw [wordsTo_zero]; rfl, Below.refl _ _⟩
  case round =>
    obtain ⟨k, rfl, hk, rfl, hb⟩ := hrel
    by_cases h1 : k < l.length
    · obtain ⟨ad, rfl, _, hcs⟩ := hr.below hb (by omega)
      have hcl := hcs k h1
      have hw := hl k
      have ks := Lib.hid (wordsTo_succ hl h1)
      have hx := wordsTo_lt hl k
      clear hcs hr
      generalize l.getD k 0 = x at *
      obtain ⟨tv, te, tb⟩ := bytes_word x
      have HV := Lib.hid tv
      have HE := Lib.hid te
      have HT := Lib.hid tb
      have hrow : Row (wr.alloc (.cells #[.int .u64 (x : Int)] 49)) (some ⟨wr.heap.size, 0, none⟩) [x] := Blk.row (e := 49) (heap_alloc_new wr _)
      have hw1 : Wd [x] := Wd.of_mem fun y hy => by rw [List.mem_singleton] at hy; subst hy; exact hw
      have hb2 := hb.alloc (o := .cells #[.int .u64 (x : Int)] 49) hb.size
      have hsz : (⟨(textL [x] 8).toArray⟩ : ByteArray).size ≤ 1099511627776 := by
        show (textL [x] 8).toArray.size ≤ _
        rw [List.size_toArray, textL_len]; decide
      clear tv te tb
      go_wp2_with (first
        | (go_at_call 72; refine (rtext_calls (some ⟨wr.heap.size, 0, none⟩) [x] 1 8 _ (by decide) (by decide) hrow hw1 (by simp)).mono ?_; rintro e w' ⟨rfl, hb3⟩; rw [HV.out, HE.out])
        | (go_at_call 73; refine (rmore_calls _ _ _ hx hsz).mono ?_; rintro e w' ⟨rfl, rfl⟩))
      go_roundw
      case rel => exact ⟨k + 1, by go_num, by omega, by rw [ks.out, ← HT.out], hb2.trans (hb3.mono hb2.size)⟩
      case measure => simp [intOf]; omega
    · obtain rfl : k = l.length := by omega
      go_wp2_with (fail)
      go_ret
      rw [kv.out]
      exact ⟨rfl, hb⟩
theorem sub_key (l : List Nat) (hx : wordsV l < 4294967296) : (wordsV l : Int) + (4294967295 - (wordsV l : Int)) * 4294967296 = ((sealW l : Nat) : Int) := by
  have h := flip_sub hx
  have h2 : wordsV l ^^^ M = 4294967295 - wordsV l := by rw [← h]; rfl
  unfold sealW
  rw [h2]
  omega
theorem rseal_calls (A : Option Addr) (l : List Nat) (c : Nat) (w : World) (hr : Row w A l) (hl : Wd l) (hlen : l.length ≤ 1099511627776) :
    Calls Tryz.prog 22 #[.slice A l.length c] w fun e w' => ∃ A' c', e = .returned (.slice A' (sealed l).length c') ∧ Row w' A' (sealed l) ∧ Fresh w.heap.size A' ∧ Below w.heap.size w w' ∧ (sealed l).length ≤ c' := by
  obtain ⟨i0, hi0, hz0, hs0, hb0⟩ := info_parts u64_info
  have HZ := Lib.hid hz0
  have HS := Lib.hid hs0
  have HB := Lib.hid hb0
  have HI := Lib.hid hi0
  clear hz0 hs0 hb0 hi0
  have hx := wordsV_lt hl.mem
  have KS := Lib.hid (sub_key l hx)
  go_enter Tryz.func22, Tryz.ntmps22
  go_wp2_with (first
    | (go_at_call 47; refine (rwords_calls A l c w hr hl hlen).mono ?_; rintro e w1 ⟨rfl, hb1⟩)
    | (at_builtin; refine wpList_clone_own rfl (.const (.slice none 0 0)) (.tmp 8) 36 rfl 49 i0 Tryz.underlying36 HI.out HZ.out HS.out HB.out A l c rfl rfl (hr.below hb1) (by omega) ?_; intro v w2 hown hb2)
    | (at_builtin; rw [KS.out]; refine wpList_append_own _ rfl (.tmp 10) (.tmp 16) 36 rfl w1.heap.size 49 i0 (.int .u64 0) 1 8 Tryz.underlying36 HI.out HZ.out HS.out HB.out rfl (by decide) v l.length (wv l) rfl (hown.alloc _) ⟨w2.heap.size, 0, none⟩ 1 1 [.int .u64 ((sealW l : Nat) : Int)] rfl rfl (cell_one_new _ _ _) (by simp [Value.oneCell']) (by unfold maxLen; omega) (by omega) (by have := hb2.size; simp; omega) ?_; intro v1 w3 hown1 hgrow1 _))
  have hs : wv l ++ [.int .u64 ((sealW l : Nat) : Int)] = wv (sealed l) := by unfold sealed; rw [wv_append]; rfl
  rw [hs] at hown1
  obtain ⟨hn, A', c', rfl, hr', hf', _, hc'⟩ := Row.of_ownC hown1
  go_ret
  have hB := hb1.trans (hb2.mono hb1.size)
  refine ⟨A', c', by rw [← hn]; rfl, hr', hf'.mono hb1.size, (hB.alloc hB.size _).grown hgrow1 (by have := hB.size; simp; omega) fun g hg => ?_, hc'⟩
  exact Nat.le_trans hb1.size (hown.lt g hg).1
end Go.Proofs.YtlejmpinfbmccaaGreatDoor
/- The program's own Words: a range over a function. -/
namespace Go.Proofs.YtlejmpinfbmccaaGreatDoor
open Go.RowKit Go.Shelf SumMath
attribute [local go_sem] Oper.semAt_some

/-- A byte. -/
abbrev U8 := { x : Nat // x < 256 }
/-- What has come when k words and j bytes are over. -/
def came (l : List Nat) (k j : Nat) : List U8 := ((l.take k).map fun w => (List.range 8).map fun i => (⟨oct w i, oct_lt w i⟩ : U8)).flatten ++ (List.range j).map fun i => (⟨oct (l.getD k 0) i, oct_lt _ i⟩ : U8)
theorem came_succ (l : List Nat) (k j : Nat) : came l k (j + 1) = came l k j ++ [⟨oct (l.getD k 0) j, oct_lt _ j⟩] := by
  unfold came
  rw [List.range_succ (n := j), List.map_append, ← List.append_assoc]
  rfl
theorem came_next {l : List Nat} {k : Nat} (h : k < l.length) : came l k 8 = came l (k + 1) 0 := by
  unfold came
  rw [List.take_succ_eq_append_getElem h, List.map_append, List.flatten_append, List.range_zero, List.map_nil, List.append_nil]
  simp [List.getD_eq_getElem?_getD, List.getElem?_eq_getElem h]
structure Comes (l : List Nat) (k x : Nat) : Prop where
  all : ∀ j, came l k (j + 1) = came l k j ++ [⟨oct x j, oct_lt x j⟩]
theorem came_length (l : List Nat) {k j : Nat} (h : k ≤ l.length) : (came l k j).length = 8 * k + j := by
  unfold came
  induction k generalizing j with
  | zero => simp
  | succ k ih =>
    have := ih (j := 8) (by omega)
    rw [List.length_append] at this ⊢
    rw [List.take_succ_eq_append_getElem (by omega), List.map_append, List.flatten_append, List.length_append]
    simp at this ⊢
    omega
/-- The bytes as numbers. -/
def nums (s : List U8) : List Nat := s.map (·.1)
theorem nums_came_all (l : List Nat) : nums (came l l.length 0) = allOcts l := by
  unfold nums came allOcts octs
  rw [List.take_length]
  simp [List.map_flatten, Function.comp_def]
/-- The sum of what has come. -/
def sumOf (s : List U8) : Nat := crc M (nums s)
theorem sumOf_nil : sumOf [] = 4294967295 := rfl
theorem sumOf_snoc (s : List U8) (x : U8) : sumOf (s ++ [x]) = upd (sumOf s) x.1 := by
  unfold sumOf nums
  rw [List.map_append, crc_append]
  rfl
theorem sumOf_lt (s : List U8) : sumOf s < 4294967296 := by
  refine crc_lt (by decide) fun b hb => ?_
  unfold nums at hb
  rw [List.mem_map] at hb
  obtain ⟨x, _, rfl⟩ := hb
  exact x.2
theorem sumOf_all {l : List Nat} (h : ∀ w ∈ l, w < 18446744073709551616) : sumOf (came l l.length 0) ^^^ M = wordsV l := by
  unfold sumOf wordsV
  rw [nums_came_all, crc_all h]

set_option maxRecDepth 100000 in
set_option maxHeartbeats 2000000 in
/-- octets's closure: for every loop body that keeps what lay below n₀. -/
theorem octets1_in (F : Fence) (n : Nat) (h7 : F.fn 114) (hro : F.round = none) (hn : 1 ≤ n) (lo Bs n₀ : Nat) (A : Option Addr) (l : List Nat) (cap : Nat) (hlen : l.length ≤ 1099511627776) (hl : Wd l) (J Jx : List U8 → World → Prop)
    (hY : ∀ pre x W, J pre W → pre.length < 8 * l.length → YieldAt F (n - 1) Tryz.prog lo #[.int .u8 (x.1 : Nat)] W fun e W' =>
      (e = .returned (.bool true) ∧ J (pre ++ [x]) W' ∧ Below n₀ W W') ∨ (e = .returned (.bool false) ∧ Jx (pre ++ [x]) W'))
    (W : World) (hBs : W.cell? ⟨Bs, 0, none⟩ = some (.slice A l.length cap)) (hA : ∀ ad, 0 < l.length → A = some ad → ad.block < n₀) (hr : Row W A l) (h0 : J [] W) :
    CallsIn F n Tryz.prog 114 #[.func (.yield lo) #[] #[], .pointer (some ⟨Bs, 0, none⟩)] W fun e W' => (∃ v, e = .returned v) ∧
      ((∃ ys, ys = came l l.length 0 ∧ J ys W') ∨ (∃ pre, True ∧ Jx pre W')) := by
  refine callsIn_of_wp Tryz.func114 rfl h7 ?_ hro
  simp only [Tryz.ntmps114, List.size_toArray, List.length_cons, List.length_nil, Nat.reduceAdd, Nat.reduceSub, Array.replicate_succ, Array.replicate_zero, List.push_toArray, List.append_toArray, List.nil_append, List.cons_append]
  gi_wp2
  gi_loopw [7] (fun i wr => ∃ k : Nat, k ≤ l.length ∧ i = .int .i64 k ∧ J (came l k 0) wr ∧ Below n₀ W wr)
    (fun i _ => l.length - (intOf i).toNat)
  case atStart => exact ⟨0, Nat.zero_le _, rfl, h0, Below.refl _ _⟩
  case round =>
    obtain ⟨k, hk, rfl, hJs, hnx⟩ := hrel
    by_cases hlt : k < l.length
    · obtain ⟨ad, rfl, hbl, hcs⟩ := hr (by omega)
      have hcx : wr.cell? (ad.add k) = some (.int .u64 ((l.getD k 0 : Nat) : Int)) := (hnx.cell (p := ad.add k) (by rw [add_block]; exact hA ad (by omega) rfl)).trans (hcs k hlt)
      have hw := hl k
      have hnext := Lib.hid (came_next hlt)
      have hsucc : Comes l k (l.getD k 0) := ⟨came_succ l k⟩
      have hclen : ∀ j, (came l k j).length = 8 * k + j := fun j => came_length l (by omega)
      have HL := Lib.hid hclen
      clear hclen hcs
      generalize l.getD k 0 = x at *
      gi_wp2
      gi_loopw [4, 11] (fun v i wr => ∃ j : Nat, j ≤ 8 ∧ i = .int .i64 j ∧ v = .int .u64 ((x / 2 ^ (8 * j) : Nat) : Int) ∧ J (came l k j) wr ∧ Below n₀ W wr)
        (fun _ i _ => 8 - (intOf i).toNat)
      case atStart => exact ⟨0, by omega, rfl, by simp, hJs, hnx⟩
      case round =>
        obtain ⟨j, hj, rfl, rfl, hJ2, hn2⟩ := hrel
        by_cases hj8 : j < 8
        · have hs := Lib.hid (hsucc.all j)
          have hzl : x / 2 ^ (8 * j) < 18446744073709551616 := Nat.lt_of_le_of_lt (Nat.div_le_self _ _) hw
          have hz2 : Hid (x / 2 ^ (8 * (j + 1)) = x / 2 ^ (8 * j) / 256) := by
            show x / 2 ^ (8 * (j + 1)) = x / 2 ^ (8 * j) / 256
            rw [Nat.div_div_eq_div_mul, show 8 * (j + 1) = 8 * j + 8 by omega, Nat.pow_add]
          obtain ⟨fn, tmps, assign, body, hy, hR⟩ := hY (came l k j) ⟨oct x j, oct_lt x j⟩ wr hJ2 (by rw [HL.out]; omega)
          have ho : oct x j = x / 2 ^ (8 * j) % 256 := rfl
          rw [← hs.out] at hR
          simp only [ho] at hy
          clear ho
          generalize x / 2 ^ (8 * j) = z at *
          have e : ((z % 256 : Nat) : Int) = (z : Int) % 256 := by simp
          rw [e] at hy
          clear e
          gi_wp2
          refine hR.mono ?_
          rintro e W3 (⟨rfl, hJ3, hk3⟩ | ⟨rfl, hJx3⟩)
          · gi_wp2
            go_roundw
            case rel => exact ⟨j + 1, by omega, by simp, by rw [hz2.out]; simp, hJ3, hn2.trans hk3⟩
            case measure => simp [intOf]; omega
          · gi_wp2
            refine bodyPost_ret (results_none rfl _ _ _) rfl ?_
            exact ⟨⟨_, rfl⟩, .inr ⟨_, trivial, hJx3⟩⟩
        · obtain rfl : j = 8 := by omega
          rw [hnext.out] at hJ2
          gi_wp2
          go_roundw
          case rel => exact ⟨k + 1, by omega, by simp, hJ2, hn2⟩
          case measure => simp [intOf]; omega
    · obtain rfl : k = l.length := by omega
      gi_wp2
      go_end0
      exact ⟨⟨_, rfl⟩, .inl ⟨_, rfl, hJs⟩⟩

theorem words_octets (F : Fence) (n : Nat) (h5 : F.fn 109) (hro : F.round = none) (a : Option Addr) (len cap : Nat) (w : World) :
    CallsIn F n Tryz.prog 109 #[.slice a len cap] w fun e w' => e = .returned (.func (.func 114) #[] #[.pointer (some ⟨w.heap.size, 0, none⟩)]) ∧ w' = w.alloc (.cells #[.slice a len cap] 36) := by
  refine callsIn_of_wp Tryz.func109 rfl h5 ?_ hro
  simp only [Tryz.ntmps109, List.size_toArray, List.length_cons, List.length_nil, Nat.reduceAdd, Nat.reduceSub, Array.replicate_succ, Array.replicate_zero, List.push_toArray, List.append_toArray, List.nil_append, List.cons_append]
  gi_wp2
  go_ret
  exact ⟨rfl, rfl⟩
/-- octets(l) hands back a value that gives the bytes of l, in order. -/
theorem octets_stops (F : Fence) (n : Nat) (h7 : F.fn 114) (hro : F.round = none) (hn : 1 ≤ n) (Bs n₀ : Nat) (A : Option Addr) (l : List Nat) (cap : Nat) (hlen : l.length ≤ 1099511627776) (hl : Wd l) (w : World) (hBs : Bs < w.heap.size) (_ : n₀ ≤ w.heap.size)
    (hc : w.cell? ⟨Bs, 0, none⟩ = some (.slice A l.length cap)) (hA : ∀ ad, 0 < l.length → A = some ad → ad.block < n₀) (hr : Row w A l) :
    SeqStopsK F n Tryz.prog 114 #[.pointer (some ⟨Bs, 0, none⟩)] (fun x : U8 => #[Value.int .u8 ((x.1 : Nat) : Int)]) (Below n₀) (fun ys => ys = came l l.length 0) (fun _ => True) (8 * l.length) w := fun lo J Jx W hW _ _ hY h0 => by
  have hc' := (hW.cell (p := ⟨Bs, 0, none⟩) hBs).trans hc
  exact octets1_in F n h7 hro hn lo Bs n₀ A l cap hlen hl J Jx hY W hc' hA (hr.below hW) h0

set_option maxRecDepth 100000 in
set_option maxHeartbeats 2000000 in
theorem words_calls (A : Option Addr) (l : List Nat) (c : Nat) (w : World) (hr : Row w A l) (hl : Wd l) (hm : ∀ x ∈ l, x < 18446744073709551616) (hlen : l.length ≤ 1099511627776) (hT : TabAt w) :
    Calls Tryz.prog 91 #[.slice A l.length c] w fun e W' => e = .returned (.int .u32 (wordsV l : Nat)) ∧ Below w.heap.size w W' := by
  have kv := Lib.hid (sumOf_all hm)
  have HT := Lib.hid hT
  clear hT hm
  refine (callsIn_wide (n := 5)).1 ?_
  refine callsIn_of_wp_marks Tryz.func91 rfl trivial ?_ rfl
  simp only [Tryz.ntmps91, List.size_toArray, List.length_cons, List.length_nil, Nat.reduceAdd, Nat.reduceSub, Array.replicate_succ, Array.replicate_zero, List.push_toArray, List.append_toArray, List.nil_append, List.cons_append]
  gi_wp2_with (refine ⟨trivial, ?_⟩; gi_at_call 109; refine (words_octets Fence.wide 4 trivial rfl _ _ _ _).mono ?_; rintro e w' ⟨rfl, rfl⟩)
  have bS := Boxed.new w 43 (.int .u32 4294967295)
  have bN := Boxed.new (w.alloc (.cells #[.int .u32 4294967295] 43)) 36 (.slice A l.length c)
  rw [World.size_alloc] at bN
  have hB0 : Below w.heap.size w ((w.alloc (.cells #[.int .u32 4294967295] 43)).alloc (.cells #[.slice A l.length c] 36)) := ((Below.refl _ w).alloc (Nat.le_refl _) _).alloc (by simp) _
  refine wpIn_rangeFunc_ownG rfl (show 1 ≤ 5 by decide) (gf := 114) (lb := #[.pointer (some ⟨w.heap.size + 1, 0, none⟩)]) rfl trivial (enters_of Tryz.func114 (by kernel_rfl) rfl)
    (octets_stops Fence.wide 4 trivial rfl (by omega) (w.heap.size + 1) w.heap.size A l c hlen hl _ (by simp) (by simp; omega) bN.cell (fun ad h0 e => by obtain ⟨ad', e', h, _⟩ := hr h0; rw [e] at e'; injection e' with e'; subst e'; exact h) (hr.below hB0)) belowK_t (belowK_b (by simp; omega)) (Below.refl _ _) (fun _ => rfl)
    (fun pre W => (W.cell? ⟨w.heap.size, 0, none⟩ = some (.int .u32 ((sumOf pre : Nat) : Int)) ∧ W.frozen? ⟨w.heap.size, 0, none⟩ = false) ∧ Below w.heap.size w W)
    (fun _ _ _ => False)
    (OwnFrom.and (Own.from (fun s A B row hs hg hr => ⟨cell_kept hs.1 hg hr, (frozen_kept hs.1 hg hr).trans hs.2⟩) _) (ownFrom_below (Nat.le_refl _) (by simp; omega)))
    (fun _ _ _ _ _ hs _ _ => hs)
    ⟨⟨(bS.alloc _).cell, (bS.alloc _).frozen⟩, hB0⟩
    (fun x => { tmps := #[.slice A l.length c, undef, .int .u32 0, .pointer (some ⟨w.heap.size, 0, none⟩), .int .u8 ((x.1 : Nat) : Int), .slice A l.length c, .func (.func 114) #[] #[.pointer (some ⟨w.heap.size + 1, 0, none⟩)], .int .u8 ((x.1 : Nat) : Int), undef, undef, undef, undef, undef], defers := [] }) ?assign ?body ?done ?stop
  case assign =>
    intro l x W K hK
    gi_wp2
    exact hK
  case body =>
    rintro l pre x W ⟨⟨hc, hf⟩, hB⟩ _
    have ht := Lib.hid (HT.out.below hB)
    have hs := Lib.hid (sumOf_snoc pre x)
    have hx := sumOf_lt pre
    have hx2 := x.2
    gi_wp2_with (refine ⟨trivial, ?_⟩; gi_at_call 110; refine (CallsIn.inRound l (callsIn_wide.2 (update_calls _ _ _ hx hx2 ht.out))).mono ?_; rintro e w' ⟨rfl, rfl⟩)
    exact ⟨(KeepsOthers.setCell _ _ _).from _, (Below.refl w.heap.size W).setCell (p := ⟨w.heap.size, 0, none⟩) (Nat.le_refl _) _, ⟨by rw [hs.out]; exact World.cell?_setCell_same' _ _ _ (by rw [hc]; rfl), by rw [World.frozen?_setCell]; exact hf⟩, hB.setCell (p := ⟨w.heap.size, 0, none⟩) (Nat.le_refl _) _⟩
  case done =>
    rintro D ys W hD rfl ⟨⟨hc, _⟩, hB⟩ hK
    have k1 := Lib.hid (flip_key _ (sumOf_lt (came l l.length 0)))
    gi_wp2_with (first | rw [k1.out])
    refine ⟨by simp, .inl ⟨_, _, rfl, run_takeDeferred hK, ?_⟩⟩
    exact ⟨_, results_tmp rfl _ _ _, by rw [← kv.out]; rfl, hB.trans (belowK_b (w := w) (Nat.le_refl _) W D _ _ (by simp at hD; omega) hK rfl rfl)⟩
  case stop =>
    rintro D c pre W _ _ h _
    exact h.elim
end Go.Proofs.YtlejmpinfbmccaaGreatDoor
/- What the document's own Same tells of two rows of words. -/
namespace Go.Proofs.YtlejmpinfbmccaaGreatDoor
open Go.RowKit WordMath
/-- The first k words are the same. -/
structure SameTo (l m : List Nat) (k : Nat) : Prop where
  all : ∀ j, j < k → l.getD j 0 = m.getD j 0
theorem SameTo.eq {l m : List Nat} (h : SameTo l m l.length) (hl : l.length = m.length) : l = m := by
  apply List.ext_getElem hl
  intro i h1 h2
  have := h.all i h1
  simpa [List.getD_eq_getElem?_getD, List.getElem?_eq_getElem h1, List.getElem?_eq_getElem h2] using this
def sameV (l m : List Nat) : Bool := decide (l = m)
theorem same_calls (A B : Option Addr) (l m : List Nat) (c d : Nat) (w : World) (ha : Row w A l) (hb : Row w B m) (hlen : l.length ≤ 140737488355328) (hlen2 : m.length ≤ 140737488355328) :
    Calls Tryz.prog 19 #[.slice A l.length c, .slice B m.length d] w (Q (.bool (sameV l m)) w) := by
  by_cases hn : l.length = m.length
  · go_enter Tryz.func19, Tryz.ntmps19
    go_wp2_with (fail)
    go_loopw [5] (fun i wr => ∃ k : Nat, i = .int .i64 k ∧ k ≤ l.length ∧ SameTo l m k ∧ ∃ q, wr = w.drewN q) (fun i _ => l.length - (intOf i).toNat)
    case atStart => exact ⟨0, rfl, by omega, ⟨fun j hj => absurd hj (by omega)⟩, 0, rfl⟩
    case round =>
      obtain ⟨k, rfl, hk, hs, q, rfl⟩ := hrel
      by_cases h1 : k < l.length
      · obtain ⟨ad, rfl, _, hca⟩ := ha (by omega)
        obtain ⟨ad', rfl, _, hcb⟩ := hb (by omega)
        have h1a := hca k h1
        have h1b := hcb k (by omega)
        by_cases he : l.getD k 0 = m.getD k 0
        · have hs' : SameTo l m (k + 1) := ⟨fun j hj => by
            by_cases h : j < k
            · exact hs.all j h
            · obtain rfl : j = k := by omega
              exact he⟩
          rw [← he] at h1b
          clear hca hcb ha hb he
          generalize l.getD k 0 = x at *
          go_wp2_with (fail)
          go_quiet (fail)
          go_wp2_with (fail)
          go_roundw
          case rel => exact ⟨k + 1, by go_num, by omega, hs', _, rfl⟩
          case measure => simp [intOf]; omega
        · have hne : ((l.getD k 0 : Int) == (m.getD k 0 : Nat)) = false := by rw [beq_eq_false_iff_ne]; omega
          have kv : Hid (sameV l m = false) := by
            show sameV l m = false
            unfold sameV
            rw [decide_eq_false_iff_not]
            rintro rfl
            exact he rfl
          clear hca hcb ha hb he
          generalize l.getD k 0 = x at *
          generalize m.getD k 0 = y at *
          go_wp2_with (fail)
          go_quiet (fail)
          go_wp2_with (fail)
          go_ret
          rw [kv.out]
          rw [World.drewN_drewN]
          exact Q.of
      · have kv : Hid (sameV l m = true) := by
          show sameV l m = true
          unfold sameV
          rw [decide_eq_true_eq]
          obtain rfl : k = l.length := by omega
          exact hs.eq hn
        go_wp2_with (fail)
        go_ret
        rw [kv.out]
        exact Q.of
  · have kv : Hid (sameV l m = false) := by
      show sameV l m = false
      unfold sameV
      rw [decide_eq_false_iff_not]
      rintro rfl
      exact hn rfl
    have hne : ((l.length : Int) == (m.length : Nat)) = false := by rw [beq_eq_false_iff_ne]; omega
    go_enter Tryz.func19, Tryz.ntmps19
    go_wp2_with (fail)
    go_ret
    rw [kv.out]
    exact Q.self
theorem sameV_self (l : List Nat) : sameV l l = true := by unfold sameV; simp
end Go.Proofs.YtlejmpinfbmccaaGreatDoor
/- What seal and Seal hand back. -/
namespace Go.Proofs.YtlejmpinfbmccaaGreatDoor
open Go.RowKit SumMath WordMath
theorem u64_size : (Tryz.prog.info? 49).map (·.size) = some 1 := by kernel_rfl
def CopyFrom (w1 : World) (A : Option Addr) (l : List Nat) (d : Option Addr) : Prop :=
    0 < (wv l).length → d = d ∧ ∃ ad, A = some ad ∧ ∀ j v, (wv l)[j]? = some v → w1.cell? (ad.add j) = some v
theorem copy_from {w w1 : World} {A : Option Addr} {l : List Nat} (d : Option Addr) (hr : Row w A l) (hb : Below w.heap.size w w1) : CopyFrom w1 A l d := by
  intro hp
  rw [wv_length] at hp
  obtain ⟨ad, e, _, hc⟩ := hr.below hb hp
  refine ⟨rfl, ad, e, fun j v hv => ?_⟩
  have hj : j < l.length := by
    rcases Nat.lt_or_ge j l.length with h | h
    · exact h
    · rw [List.getElem?_eq_none (by rw [wv_length]; exact h)] at hv; cases hv
  rw [wv_get l j hj] at hv
  rw [hc j hj]; exact hv
theorem Row.take {w : World} {A : Option Addr} {l : List Nat} (h : Row w A l) (n : Nat) : Row w A (l.take n) := fun h0 => by
  rw [List.length_take] at h0
  obtain ⟨ad, e, hl, hc⟩ := h (by omega)
  refine ⟨ad, e, hl, fun k hk => ?_⟩
  rw [List.length_take] at hk
  rw [hc k (by omega)]
  simp only [List.getD_eq_getElem?_getD]
  rw [List.getElem?_take_of_lt (by omega)]
theorem Wd.take {l : List Nat} (h : Wd l) (n : Nat) : Wd (l.take n) := Wd.of_mem fun x hx => h.mem x (List.mem_of_mem_take hx)
theorem seal_key (l : List Nat) (hx : wordsV l < 4294967296) : bits .or .u64 (((wordsV l ^^^ M : Nat) : Int) * 4294967296) (wordsV l : Nat) = ((sealW l : Nat) : Int) := by
  have h1 := flip_lt hx
  have e : (((wordsV l ^^^ M : Nat) : Int) * 4294967296) = (((wordsV l ^^^ M) * 4294967296 : Nat) : Int) := by simp
  rw [e, u64_or_nat _ _ (by omega) (by omega)]
  unfold sealW
  congr 1
  rw [Nat.mul_comm]
  exact (Nat.two_pow_add_eq_or_of_lt (i := 32) (show wordsV l < 2 ^ 32 by simpa using hx) _).symm
theorem seal_calls (A : Option Addr) (l : List Nat) (c : Nat) (w : World) (hr : Row w A l) (hl : Wd l) (hlen : l.length ≤ 1099511627776) (hT : TabAt w) :
    Calls Tryz.prog 67 #[.slice A l.length c] w fun e W' => e = .returned (.int .u64 ((sealW l : Nat) : Int)) ∧ Below w.heap.size w W' := by
  have hx := wordsV_lt hl.mem
  have hfx := flip_lt hx
  have k1 := Lib.hid (flip_key _ hx)
  have k2 := Lib.hid (seal_key l hx)
  generalize wordsV l ^^^ M = y at *
  have w1' : Hid (IntKind.u64.wrap (y : Int) = (y : Int)) := by
    show IntKind.u64.wrap (y : Int) = _
    rw [IntKind.wrap_u64]; omega
  have w2' : Hid (IntKind.u64.wrap ((y : Int) * 4294967296) = (y : Int) * 4294967296) := by
    show IntKind.u64.wrap ((y : Int) * 4294967296) = _
    rw [IntKind.wrap_u64]; omega
  go_enter Tryz.func67, Tryz.ntmps67
  go_wp2_with (first
    | (go_at_call 91; refine (words_calls A l c w hr hl hl.mem hlen hT).mono ?_; rintro e w1 ⟨rfl, hb1⟩)
    | rw [k1.out] | rw [k2.out])
  go_ret
  rw [w1'.out, w2'.out, k2.out]
  exact ⟨rfl, hb1⟩
theorem splice_front (l m : List Nat) (_ : l.length ≤ m.length) : splice (wv m) 0 (wv l) = wv (l ++ m.drop l.length) := by
  simp [splice, wv]
theorem sealed_set (l : List Nat) (x : Nat) : (l ++ [x]).set l.length (sealW l) = sealed l := by
  simp [sealed]
theorem seal_spliced {w1 : World} {g : Nat} {e : TypeId} {l : List Nat} (h : Hid (w1.heap[g]? = some (.cells (splice (wv (List.replicate (l.length + 1) 0)) 0 (wv l)).toArray e (0, 0)))) : Blk e w1 g (l ++ [0]) := by
  have := h.out
  rw [splice_front l _ (by simp)] at this
  simpa [Blk] using this
theorem Seal_calls2 (A : Option Addr) (l : List Nat) (c : Nat) (w : World) (hr : Row w A l) (hl : Wd l) (hlen : l.length ≤ 1099511627776) (hT : TabAt w) :
    Calls Tryz.prog 41 #[.slice A l.length c] w fun e w' => ∃ A' c', e = .returned (.slice A' (sealed l).length c') ∧ Row w' A' (sealed l) ∧ Fresh w.heap.size A' ∧ Below w.heap.size w w' ∧ (sealed l).length ≤ c' ∧ ∃ g, A' = some ⟨g, 0, none⟩ ∧ Blk 49 w' g (sealed l) := by
  have hmk := run_make_row' (P := Tryz.prog) 36 49 (.int .u64 0) 8 Tryz.underlying36 u64_info rfl .i64 .i64 (l.length + 1) (by omega) (by omega)
  have e1 : ((l.length + 1 : Nat) : Int) = (l.length : Int) + 1 := by simp
  rw [e1] at hmk
  have hcop := (copy_from (w := w) (w1 := w.alloc (.cells (madeCells #[.int .u64 0] (l.length + 1)) 49)) (some ⟨w.heap.size, 0, none⟩) hr ((Below.refl _ _).alloc (Nat.le_refl _) _))
  have HT := Lib.hid hT
  clear hT
  go_enter Tryz.func41, Tryz.ntmps41
  go_wp2_with (first
    | (refine wpList_copy_splice rfl (.tmp 8) (.tmp 9) 36 36 rfl 49 Tryz.underlying36 u64_size (some ⟨w.heap.size, 0, none⟩) A (l.length + 1) (l.length + 1) l.length c rfl rfl w.heap.size 0 (wv (List.replicate (l.length + 1) 0)) 49 (Blk.new w 49 (l.length + 1)) (wv l) (by simp [wv_length]) hcop (by simp [wv_length]) (wv_one l) w.heap.size w ((Below.refl _ _).alloc (Nat.le_refl _) _) (Nat.le_refl _) ?_; intro w1 hg1 hb1; have hB1 := seal_spliced hg1; clear hg1)
    | (go_at_call 67; refine (seal_calls A l c w1 (hr.below hb1) hl hlen (HT.out.below hb1)).mono ?_; rintro e w2 ⟨rfl, hb2⟩; have hB2 := hB1.below hb2 hB1.lt; have hc2 := hB2.cell l.length (by simp); have hf2 := hB2.frozen l.length))
  go_ret
  have hblk := hB2.set l.length (sealW l)
  rw [sealed_set] at hblk
  have hrow := hblk.row
  have hlen' : (sealed l).length = l.length + 1 := by simp [sealed]
  exact ⟨some ⟨w.heap.size, 0, none⟩, l.length + 1, by rw [hlen']; rfl, hrow, Fresh.at (Nat.le_refl _), (hb1.trans (hb2.mono hb1.size)).setCell (p := ⟨w.heap.size, l.length, none⟩) (Nat.le_refl _) _, by omega, _, rfl, hblk⟩
theorem Seal_calls (A : Option Addr) (l : List Nat) (c : Nat) (w : World) (hr : Row w A l) (hl : Wd l) (hlen : l.length ≤ 1099511627776) (hT : TabAt w) :
    Calls Tryz.prog 41 #[.slice A l.length c] w fun e w' => ∃ A' c', e = .returned (.slice A' (sealed l).length c') ∧ Row w' A' (sealed l) ∧ Fresh w.heap.size A' ∧ Below w.heap.size w w' ∧ (sealed l).length ≤ c' :=
  (Seal_calls2 A l c w hr hl hlen hT).mono fun _ _ ⟨A', c', h1, h2, h3, h4, h5, _⟩ => ⟨A', c', h1, h2, h3, h4, h5⟩
/-- What Open answers. -/
def openL (l : List Nat) : List Nat := if isSealed l then l.take (l.length - 1) else []
def openB (l : List Nat) : Bool := decide (isSealed l)
theorem openL_yes {l : List Nat} (h : isSealed l) : openL l = l.take (l.length - 1) := if_pos h
theorem openL_no {l : List Nat} (h : ¬ isSealed l) : openL l = [] := if_neg h
theorem openB_yes {l : List Nat} (h : isSealed l) : openB l = true := decide_eq_true h
theorem openB_no {l : List Nat} (h : ¬ isSealed l) : openB l = false := decide_eq_false h
/-- It hands back a row of its own and a Bool; nothing that was there has turned. -/
def GivesB (l : List Nat) (b : Bool) (w : World) (e : Ending) (w' : World) : Prop :=
  ∃ A c, e = .returned (.tuple #[.slice A l.length c, .bool b]) ∧ Row w' A l ∧ Fresh w.heap.size A ∧ Below w.heap.size w w' ∧ l.length ≤ c
theorem isSealed_snoc (z : List Nat) (d : Nat) : isSealed (z ++ [d]) ↔ d = sealW z := by
  unfold isSealed
  simp
theorem openL_snoc_yes {z : List Nat} {d : Nat} (h : d = sealW z) : openL (z ++ [d]) = z := by
  rw [openL_yes ((isSealed_snoc z d).2 h)]; simp
theorem openL_snoc_no {z : List Nat} {d : Nat} (h : ¬ d = sealW z) : openL (z ++ [d]) = [] := openL_no fun hs => h ((isSealed_snoc z d).1 hs)
theorem openB_snoc (z : List Nat) (d : Nat) : openB (z ++ [d]) = decide (d = sealW z) := by
  unfold openB
  exact decide_eq_decide.2 (isSealed_snoc z d)
theorem Row.init {w : World} {A : Option Addr} {z : List Nat} {d : Nat} (h : Row w A (z ++ [d])) : Row w A z := by
  have := h.take z.length
  rwa [List.take_left] at this
theorem Row.last {w : World} {A : Option Addr} {z : List Nat} {d : Nat} (h : Row w A (z ++ [d])) : ∃ ad, A = some ad ∧ ad.block < w.heap.size ∧ w.cell? (ad.add z.length) = some (.int .u64 (d : Int)) := by
  obtain ⟨ad, e, hb, hc⟩ := h (by simp)
  have := hc z.length (by simp)
  rw [List.getD_eq_getElem?_getD, List.getElem?_concat_length, Option.getD_some] at this
  exact ⟨ad, e, hb, this⟩
theorem ropen_nil (A : Option Addr) (c : Nat) (w : World) : Calls Tryz.prog 69 #[.slice A 0 c] w (GivesB (openL []) (openB []) w) := by
  have hn : ¬ isSealed [] := fun h => absurd h.1 (by decide)
  have kv := Lib.hid (openL_no hn)
  have kb := Lib.hid (openB_no hn)
  clear hn
  go_enter Tryz.func69, Tryz.ntmps69
  go_wp2_with (fail)
  go_ret2
  rw [kv.out, kb.out]
  exact ⟨none, 0, rfl, Row.nil _ _, Fresh.none, Below.refl _ _, by simp⟩
theorem ropen_snoc (A : Option Addr) (z : List Nat) (d : Nat) (c : Nat) (w : World) (hr : Row w A (z ++ [d])) (hl : Wd (z ++ [d])) (hlen : z.length < 1099511627776) (hcap : z.length + 1 ≤ c) :
    Calls Tryz.prog 69 #[.slice A (z.length + 1) c] w (GivesB (openL (z ++ [d])) (openB (z ++ [d])) w) := by
  have ht : ((z.length : Int) + 1 == 0) = false := by rw [beq_eq_false_iff_ne]; omega
  obtain ⟨i0, hi0, hz0, hs0, hb0⟩ := info_parts u64_info
  have HZ := Lib.hid hz0
  have HS := Lib.hid hs0
  have HB := Lib.hid hb0
  have HI := Lib.hid hi0
  clear hz0 hs0 hb0 hi0
  have hrz := hr.init
  have hlz : Wd z := Wd.of_mem fun x hx => hl.mem x (List.mem_append_left _ hx)
  have hle : Hid ((z ++ [d]).length = z.length + 1) := by show (z ++ [d]).length = _; simp
  have hls : Hid ((sealed z).length = z.length + 1) := by show (sealed z).length = _; simp [sealed]
  by_cases hd : d = sealW z
  all_goals
    have hs : Hid (sameV (sealed z) (z ++ [d]) = decide (d = sealW z)) := by
      show sameV (sealed z) (z ++ [d]) = _
      unfold sameV sealed
      exact decide_eq_decide.2 ⟨fun h => by simpa using h.symm, fun h => by rw [h]⟩
    have kb0 := openB_snoc z d
    first
      | (have kv := Lib.hid (openL_snoc_yes hd); rw [decide_eq_true hd] at hs kb0)
      | (have kv := Lib.hid (openL_snoc_no hd); rw [decide_eq_false hd] at hs kb0)
    have kb := Lib.hid kb0
    clear hd kb0
    go_enter Tryz.func69, Tryz.ntmps69
    go_wp2_with (first
      | (at_builtin; refine wpList_cloneC rfl (.const (.slice none 0 0)) (.tmp 12) 36 rfl 49 i0 Tryz.underlying36 HI.out HZ.out HS.out HB.out A z c rfl rfl hrz (by omega) ?_; intro A1 c1 w1 hr1 hf1 hb1 _ hc1)
      | (go_at_call 22; refine (rseal_calls A1 z c1 w1 hr1 hlz (by omega)).mono ?_; rintro e w2 ⟨A2, c2, rfl, hr2, hf2, hb2, hc2⟩; rw [hls.out])
      | (go_at_call 19; have h := same_calls A2 A (sealed z) (z ++ [d]) c2 c w2 hr2 ((hr.below hb1).below hb2) (by rw [hls.out]; omega) (by rw [hle.out]; omega); rw [hls.out, hle.out] at h; refine h.mono ?_; clear h; rintro e w3 ⟨rfl, m, rfl⟩; rw [hs.out]))
    go_ret2
    rw [kv.out, kb.out]
    first
      | exact ⟨A1, c1, rfl, (hr1.below hb2).drewN m, hf1, below_drewN (hb1.trans (hb2.mono hb1.size)) m, hc1⟩
      | exact ⟨none, 0, rfl, Row.nil _ _, Fresh.none, below_drewN (hb1.trans (hb2.mono hb1.size)) m, by simp⟩
theorem ropen_calls (A : Option Addr) (l : List Nat) (c : Nat) (w : World) (hr : Row w A l) (hl : Wd l) (hlen : l.length ≤ 1099511627776) (hcap : l.length ≤ c) :
    Calls Tryz.prog 69 #[.slice A l.length c] w (GivesB (openL l) (openB l) w) := by
  rcases List.eq_nil_or_concat l with rfl | ⟨z, d, rfl⟩
  · exact ropen_nil A c w
  · rw [List.concat_eq_append] at *
    have h := ropen_snoc A z d c w hr hl (by simp at hlen; omega) (by simpa using hcap)
    rw [show (z ++ [d]).length = z.length + 1 by simp]
    exact h
end Go.Proofs.YtlejmpinfbmccaaGreatDoor
/- What Open hands back: a region that draws its order, with a call in it that makes memory. -/
namespace Go.Proofs.YtlejmpinfbmccaaGreatDoor
open Go.RowKit SumMath WordMath Go.Sort
theorem blk_spliced {w1 : World} {g : Nat} {e : TypeId} {l : List Nat} (h : Hid (w1.heap[g]? = some (.cells (splice (wv (List.replicate l.length 0)) 0 (wv l)).toArray e (0, 0)))) : Blk e w1 g l := by
  have := h.out
  rw [splice_front l _ (by simp)] at this
  simpa [Blk] using this
theorem open_nil (A : Option Addr) (c : Nat) (w : World) : Calls Tryz.prog 75 #[.slice A 0 c] w (GivesB (openL []) (openB []) w) := by
  have hn : ¬ isSealed [] := fun h => absurd h.1 (by decide)
  have kv := Lib.hid (openL_no hn)
  have kb := Lib.hid (openB_no hn)
  clear hn
  go_enter Tryz.func75, Tryz.ntmps75
  go_wp2_with (fail)
  refine wp_region_quiet_below (by kernel_rfl) (by kernel_rfl) ?_
  repeat (first | go_big_quiet_step (fail) | quiet_step (fail))
  refine wpQuiet_nil ?_
  intro _ hw'
  obtain ⟨⟨dq, osq⟩, hw''⟩ := hw'
  subst hw''
  go_wp2_with (fail)
  go_ret2
  rw [kv.out, kb.out]
  exact ⟨none, 0, rfl, Row.nil _ _, Fresh.none, below_regrown w dq osq, by simp⟩
theorem open_snoc (A : Option Addr) (z : List Nat) (d : Nat) (c : Nat) (w : World) (hr : Row w A (z ++ [d])) (hl : Wd (z ++ [d])) (hlen : z.length < 1099511627776) (hcap : z.length + 1 ≤ c) (hT : TabAt w) :
    Calls Tryz.prog 75 #[.slice A (z.length + 1) c] w (GivesB (openL (z ++ [d])) (openB (z ++ [d])) w) := by
  have hrz := hr.init
  have hlz : Wd z := Wd.of_mem fun x hx => hl.mem x (List.mem_append_left _ hx)
  obtain ⟨ad, rfl, hbl, hlast⟩ := hr.last
  have k0 := cell_regrown hlast
  have hmk := run_make_row' (P := Tryz.prog) 36 49 (.int .u64 0) 8 Tryz.underlying36 u64_info rfl .i64 .i64 z.length (by omega) (by omega)
  have cS : ∀ dq os, Calls Tryz.prog 67 #[.slice (some ad) z.length c] (grow (redrawn w dq) os) fun e w'' => e = .returned (.int .u64 ((sealW z : Nat) : Int)) ∧ ∃ p : Regrown, w'' = grow (redrawn w p.d) p.os :=
    fun dq os => Calls.regrown_of (seal_calls (some ad) z c _ (hrz.below (below_regrown w dq os)) hlz (by omega) (hT.below (below_regrown w dq os)))
  have n1 : z.length ≤ c := by omega
  have n2 : decide ((z.length : Int) < 0) = false := by rw [decide_eq_false_iff_not]; omega
  have hx := sealW_lt hlz.mem
  by_cases hd : d = sealW z
  all_goals
    have kb0 := openB_snoc z d
    first
      | (have kv := Lib.hid (openL_snoc_yes hd); have ht : ((d : Int) != (sealW z : Nat)) = false := (by rw [hd]; simp); rw [decide_eq_true hd] at kb0)
      | (have kv := Lib.hid (openL_snoc_no hd); have ht : ((d : Int) != (sealW z : Nat)) = true := (by rw [bne_iff_ne]; omega); rw [decide_eq_false hd] at kb0)
    have kb := Lib.hid kb0
    clear hd kb0
    go_enter Tryz.func75, Tryz.ntmps75
    go_wp2_with (fail)
    refine wp_region_quiet_below (by kernel_rfl) (by kernel_rfl) ?_
    repeat (first | go_big_quiet_step (exact cS _ _) | quiet_step (exact cS _ _))
    refine wpQuiet_nil ?_
    intro _ hw'
    obtain ⟨⟨dq, osq⟩, hw''⟩ := hw'
    subst hw''
    have hb1 := below_regrown w dq osq
    clear k0 cS
    generalize grow (redrawn w dq) osq = w1 at *
    have hcop := copy_from (some ⟨w1.heap.size, 0, none⟩) hrz (hb1.alloc (o := .cells (madeCells #[.int .u64 0] z.length) 49) hb1.size)
    go_wp2_with (
      (refine wpList_copy_splice rfl (.tmp 24) (.tmp 25) 36 36 rfl 49 Tryz.underlying36 u64_size (some ⟨w1.heap.size, 0, none⟩) (some ad) z.length z.length (z.length + 1) c rfl rfl w1.heap.size 0 (wv (List.replicate z.length 0)) 49 (Blk.new w1 49 z.length) (wv z) (by simp [wv_length]) hcop (by simp [wv_length]) (wv_one z) w.heap.size w (hb1.alloc hb1.size _) hb1.size ?_; intro w2 hg2 hb2; have hB2 := blk_spliced hg2; clear hg2))
    go_ret2
    rw [kv.out, kb.out]
    first
      | exact ⟨some ⟨w1.heap.size, 0, none⟩, z.length, rfl, hB2.row, Fresh.at hb1.size, hb2, Nat.le_refl _⟩
      | exact ⟨none, 0, rfl, Row.nil _ _, Fresh.none, hb1, by simp⟩
theorem open_calls (A : Option Addr) (l : List Nat) (c : Nat) (w : World) (hr : Row w A l) (hl : Wd l) (hlen : l.length ≤ 1099511627776) (hcap : l.length ≤ c) (hT : TabAt w) :
    Calls Tryz.prog 75 #[.slice A l.length c] w (GivesB (openL l) (openB l) w) := by
  rcases List.eq_nil_or_concat l with rfl | ⟨z, d, rfl⟩
  · exact open_nil A c w
  · rw [List.concat_eq_append] at *
    have h := open_snoc A z d c w hr hl (by simp at hlen; omega) (by simpa using hcap) hT
    rw [show (z ++ [d]).length = z.length + 1 by simp]
    exact h
end Go.Proofs.YtlejmpinfbmccaaGreatDoor
