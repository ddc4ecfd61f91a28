/- What the document's own Words and Seal hand back. -/
import Derived.Test.YtlfpjfijlngpcaaDoorSum2
import Derived.Test.YtlfpjfijlngpcaaDoorOwn
set_option linter.unusedSimpArgs false
set_option linter.unusedVariables false
namespace Go.Proofs.YtlfpjfijlngpcaaDoor
open Go.RowKit SumMath WordMath
theorem Wd.mem {l : List Nat} (h : Wd l) : ∀ x ∈ l, x < 18446744073709551616 := fun x hx => by
  obtain ⟨i, hi, rfl⟩ := List.getElem_of_mem hx
  have := h i
  rwa [List.getD_eq_getElem?_getD, List.getElem?_eq_getElem hi, Option.getD_some] at this
theorem Wd.of_mem {l : List Nat} (h : ∀ x ∈ l, x < 18446744073709551616) : Wd l := fun k => by
  rw [List.getD_eq_getElem?_getD]
  rcases Nat.lt_or_ge k l.length with hk | hk
  · rw [List.getElem?_eq_getElem hk, Option.getD_some]; exact h _ (List.getElem_mem hk)
  · rw [List.getElem?_eq_none hk]; decide
/-- The sum of the first k words. -/
def wordsTo (l : List Nat) (k : Nat) : Nat := wordsV (l.take k)
theorem wordsTo_zero (l : List Nat) : wordsTo l 0 = 0 := by unfold wordsTo wordsV wcrc; rw [List.take_zero, List.foldl_nil, Nat.xor_self]
theorem wordsTo_all (l : List Nat) : wordsTo l l.length = wordsV l := by unfold wordsTo; rw [List.take_length]
theorem wordsTo_lt {l : List Nat} (h : Wd l) (k : Nat) : wordsTo l k < 4294967296 := wordsV_lt fun w hw => h.mem w (List.mem_of_mem_take hw)
theorem wordsTo_succ {l : List Nat} (h : Wd l) {k : Nat} (hk : k < l.length) : wordsTo l (k + 1) = moreV (wordsTo l k) (octs (l.getD k 0) 8) := by
  unfold wordsTo wordsV moreV
  rw [List.take_succ_eq_append_getElem hk, wcrc_snoc, flip_two, wupd_octs (h k)]
  congr 2
  rw [List.getD_eq_getElem?_getD, List.getElem?_eq_getElem hk, Option.getD_some]
theorem bytes_word (x : Nat) : txtV [x] 8 = ⟨(textL [x] 8).toArray⟩ ∧ txtE [x] 8 = 0 ∧ bytesN (textL [x] 8) = octs x 8 := by
  have h : isTxt [x] 8 := ⟨by decide, by simp⟩
  refine ⟨txtV_yes h, txtE_yes h, ?_⟩
  unfold bytesN textL octs
  rw [List.map_map]
  apply List.map_congr_left
  intro k hk
  have hk8 : k < 8 := by simpa using hk
  have e1 : k / 8 = 0 := by omega
  have e2 : k % 8 = k := by omega
  simp [e1, e2, oct, fld]
theorem rwords_calls (A : Option Addr) (l : List Nat) (c : Nat) (w : World) (hr : Row w A l) (hl : Wd l) (hlen : l.length ≤ 1099511627776) :
    Calls Tryd.prog 22 #[.slice A l.length c] w fun e w' => e = .returned (.int .u32 (wordsV l : Nat)) ∧ Below w.heap.size w w' := by
  have kv := Lib.hid (wordsTo_all l)
  go_enter Tryd.func22, Tryd.ntmps22
  go_wp2_with (fail)
  go_loopw [3, 4] (fun x i wr => ∃ k : Nat, i = .int .i64 k ∧ k ≤ l.length ∧ x = .int .u32 (wordsTo l k : Nat) ∧ Below w.heap.size w wr) (fun _ i _ => l.length - (intOf i).toNat)
  case atStart => exact ⟨0, rfl, by omega, by rw [wordsTo_zero]; rfl, Below.refl _ _⟩
  case round =>
    obtain ⟨k, rfl, hk, rfl, hb⟩ := hrel
    by_cases h1 : k < l.length
    · obtain ⟨ad, rfl, _, hcs⟩ := hr.below hb (by omega)
      have hcl := hcs k h1
      have hw := hl k
      have ks := Lib.hid (wordsTo_succ hl h1)
      have hx := wordsTo_lt hl k
      clear hcs hr
      generalize l.getD k 0 = x at *
      obtain ⟨tv, te, tb⟩ := bytes_word x
      have HV := Lib.hid tv
      have HE := Lib.hid te
      have HT := Lib.hid tb
      have hrow : Row (wr.alloc (.cells #[.int .u64 (x : Int)] 26)) (some ⟨wr.heap.size, 0, none⟩) [x] := Blk.row (e := 26) (heap_alloc_new wr _)
      have hw1 : Wd [x] := Wd.of_mem fun y hy => by rw [List.mem_singleton] at hy; subst hy; exact hw
      have hb2 := hb.alloc (o := .cells #[.int .u64 (x : Int)] 26) hb.size
      have hsz : (⟨(textL [x] 8).toArray⟩ : ByteArray).size ≤ 1099511627776 := by
        show (textL [x] 8).toArray.size ≤ _
        rw [List.size_toArray, textL_len]; decide
      clear tv te tb
      go_wp2_with (first
        | (go_at_call 28; refine (rtext_calls (some ⟨wr.heap.size, 0, none⟩) [x] 1 8 _ (by decide) (by decide) hrow hw1 (by simp)).mono ?_; rintro e w' ⟨rfl, hb3⟩; rw [HV.out, HE.out])
        | (go_at_call 29; refine (rmore_calls _ _ _ hx hsz).mono ?_; rintro e w' ⟨rfl, rfl⟩))
      go_roundw
      case rel => exact ⟨k + 1, by go_num, by omega, by rw [ks.out, ← HT.out], hb2.trans (hb3.mono hb2.size)⟩
      case measure => simp [intOf]; omega
    · obtain rfl : k = l.length := by omega
      go_wp2_with (fail)
      go_ret
      rw [kv.out]
      exact ⟨rfl, hb⟩
theorem sub_key (l : List Nat) (hx : wordsV l < 4294967296) : (wordsV l : Int) + (4294967295 - (wordsV l : Int)) * 4294967296 = ((sealW l : Nat) : Int) := by
  have h := flip_sub hx
  have h2 : wordsV l ^^^ M = 4294967295 - wordsV l := by rw [← h]; rfl
  unfold sealW
  rw [h2]
  omega
end Go.Proofs.YtlfpjfijlngpcaaDoor
