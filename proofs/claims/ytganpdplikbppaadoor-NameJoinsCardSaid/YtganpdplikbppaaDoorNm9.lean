/- The document's parts. -/
import Derived.Test.YtganpdplikbppaaDoorNm6
import Derived.Test.YtganpdplikbppaaDoorBytes
import Derived.WalkLawsBesides
set_option linter.unusedSimpArgs false
set_option linter.unusedVariables false
namespace Go.Proofs.YtganpdplikbppaaDoor
open Go.RowKit Go.Lib

theorem strInfo : (Tryd.prog.info? 9).map (fun i => (i.zero, i.size, i.bytes)) = some (some (.string ⟨#[]⟩), 1, 16) := by kernel_rfl
theorem cells_str (x : ByteArray) (e : TypeId) {w : World} {g : Nat} (h : w.heap[g]? = some (.cells #[.string x] e (0, 0))) : ∀ j u, ([Value.string x] : List Value)[j]? = some u → w.cell? ((⟨g, 0, none⟩ : Addr).add j) = some u := fun j u hu => by
  cases j with
  | zero =>
    simp at hu
    subst hu
    rw [add_zero_block, cell_of_row w g 0 _ e (0, 0) h]
    rfl
  | succ j => simp at hu
theorem tl_append (a b : ByteArray) : tl (a ++ b) = tl a ++ tl b := by simp [tl]
theorem size_snoc (a : ByteArray) (b : UInt8) : (a ++ (⟨#[b]⟩ : ByteArray)).size = a.size + 1 := by
  rw [size_eq, size_eq a, show (a ++ (⟨#[b]⟩ : ByteArray)).data.toList = _ from tl_append a ⟨#[b]⟩, List.length_append]; rfl
/-- What is still to come, at byte k with a part begun. -/
def rest (l : List UInt8) (k : Nat) (p : List UInt8) : List (List UInt8) := if k ≤ l.length then full (glue p (pcs (l.drop k))) else []
theorem full_cons_no (L : List (List UInt8)) : full ([] :: L) = full L := by simp [full]
theorem full_cons {p : List UInt8} (h : ¬ p = []) (L : List (List UInt8)) : full (p :: L) = p :: full L := by
  have : p.isEmpty = false := by simpa using h
  simp [full, this]
theorem rest_start (l : List UInt8) : rest l 0 [] = ptsL l := by
  unfold rest ptsL
  rw [if_pos (Nat.zero_le _), List.drop_zero, glue_nil]
theorem rest_byte {l : List UInt8} {k : Nat} {b : UInt8} {p : List UInt8} (hk : l[k]? = some b) (hb : b ≠ 47) : rest l k p = rest l (k + 1) (p ++ [b]) := by
  obtain ⟨hlt, he⟩ := List.getElem?_eq_some_iff.1 hk
  have q1 : k ≤ l.length := by omega
  have q2 : k + 1 ≤ l.length := by omega
  unfold rest
  rw [if_pos q1, if_pos q2, List.drop_eq_getElem_cons hlt, he, pcs, if_neg hb, glue_glue]
theorem rest_slash {l : List UInt8} {k : Nat} {p : List UInt8} (hk : l[k]? = some 47) : rest l k p = (if p = [] then [] else [p]) ++ rest l (k + 1) [] := by
  obtain ⟨hlt, he⟩ := List.getElem?_eq_some_iff.1 hk
  have q1 : k ≤ l.length := by omega
  have q2 : k + 1 ≤ l.length := by omega
  unfold rest
  rw [if_pos q1, if_pos q2, List.drop_eq_getElem_cons hlt, he, pcs, if_pos rfl, glue_nil]
  show full ((p ++ []) :: pcs _) = _
  rw [List.append_nil]
  split
  · rename_i h; subst h; rw [full_cons_no]; rfl
  · rename_i h; rw [full_cons h]; rfl
theorem rest_end {l : List UInt8} {p : List UInt8} : rest l l.length p = (if p = [] then [] else [p]) ++ rest l (l.length + 1) [] := by
  have q1 : ¬ l.length + 1 ≤ l.length := by omega
  unfold rest
  rw [if_pos (Nat.le_refl _), if_neg q1, List.drop_length]
  show full ((p ++ []) :: []) = _
  rw [List.append_nil]
  split
  · rename_i h; subst h; rfl
  · rename_i h; rw [full_cons h]; rfl
theorem rest_past {l p : List UInt8} : rest l (l.length + 1) p = [] := by unfold rest; rw [if_neg (by omega)]
set_option maxRecDepth 100000 in
set_option maxHeartbeats 4000000 in
theorem rparts_calls (s : ByteArray) (w : World) (hs : s.size ≤ 1099511627776) :
    Calls Tryd.prog 29 #[.string s] w fun e w' => ∃ xs v, e = .returned v ∧ xs.map tl = ptsL (tl s) ∧ w'.ownsRow w.heap.size 9 1 v xs.length (sv xs) ∧ Below w.heap.size w w' := by
  obtain ⟨i0, hi, hz0, hz1, hz2⟩ := info_parts strInfo
  go_enter Tryd.func29, Tryd.ntmps29
  go_wp2_with (fail)
  go_loopw [3, 4, 5] (fun v q i wr => ∃ (k : Nat) (xs : List ByteArray) (p : ByteArray), i = .int .i64 k ∧ q = .string p ∧ k ≤ s.size + 1 ∧ p.size ≤ k ∧ xs.length ≤ k ∧ Hid (xs.map tl ++ rest (tl s) k (tl p) = ptsL (tl s)) ∧ wr.ownsRow w.heap.size 9 1 v xs.length (sv xs) ∧ Below w.heap.size w wr)
    (fun _ _ i _ => s.size + 1 - (RowKit.intOf i).toNat)
  case atStart => exact ⟨0, [], ⟨#[]⟩, rfl, rfl, by omega, Nat.le_refl _, Nat.le_refl _, rest_start _, World.ownsRow_nil _ _ _ _, Below.refl _ _⟩
  case round =>
    obtain ⟨k, xs, p, rfl, rfl, hk, hp, hxs, hrest, hown, hbl⟩ := hrel
    have HB := Lib.hid hbl
    have hbs := hbl.size
    clear hbl
    by_cases hlt : k < s.size
    · obtain ⟨b, hb⟩ : ∃ b, s[k] = b := ⟨_, rfl⟩
      have hbl : (tl s)[k]? = some b := by rw [← hb]; exact data_getElem? s k hlt
      by_cases h47 : b = 47
      · have HR := Lib.hid (rest_slash (p := tl p) (h47 ▸ hbl))
        have t47 : ((b.toNat : Int) != 47) = false := by rw [h47]; decide
        clear hbl
        cases hpe : p.toList.isEmpty with
        | true =>
          have hp0 : tl p = [] := (empty_iff p).1 hpe
          go_wp2_with (fail)
          go_roundw
          case rel => exact ⟨k + 1, xs, ⟨#[]⟩, by go_num, rfl, by omega, Nat.zero_le _, by omega, by have := hrest.out; rw [HR.out, if_pos hp0, List.nil_append] at this; exact this, hown, HB.out⟩
          case measure => simp [RowKit.intOf] <;> omega
        | false =>
          go_wp2_with (at_builtin; refine wpList_append_own _ rfl _ _ 27 rfl w.heap.size 9 i0 (.string ⟨#[]⟩) 1 16 Tryd.underlying27 hi hz0 hz1 hz2 rfl (by decide) _ _ _ rfl (hown.alloc _) ⟨wr.heap.size, 0, none⟩ 1 1 [.string p] rfl rfl (cells_str p _ (heap_alloc_new _ _)) (by simp [Value.oneCell']) (by unfold maxLen; omega) (by omega) (by rw [World.size_alloc]; omega) ?_; intro v' w1 hown' hgrow _)
          have hp0 : ¬ tl p = [] := not_empty hpe
          go_roundw
          case rel => exact ⟨k + 1, xs ++ [p], ⟨#[]⟩, by go_num, rfl, by omega, Nat.zero_le _, by rw [List.length_append, List.length_singleton]; omega, by have := hrest.out; rw [HR.out, if_neg hp0, ← List.append_assoc] at this; rw [List.map_append]; exact this, by rw [List.length_append, List.length_singleton, sv_append]; exact hown', HB.out.trans ((Below.refl _ wr).alloc (by omega) _ |>.grown hgrow (by rw [World.size_alloc]; omega) (fun j hj => owns_ge hown j hj))⟩
          case measure => simp [RowKit.intOf] <;> omega
      · have HR := Lib.hid (rest_byte (p := tl p) hbl h47)
        have t47 : ((b.toNat : Int) != 47) = true := by
          rw [bne_iff_ne]
          intro e
          exact h47 (UInt8.toNat_inj.1 (by simpa using Int.ofNat.inj e))
        clear hbl
        have hconv : (convert 49 9 (.slice (some ⟨wr.heap.size, 0, none⟩) 1 1)).run Tryd.prog (wr.alloc (.cells #[.int .u8 (b.toNat : Int)] 5)) = .ok (.string ⟨#[b]⟩) (wr.alloc (.cells #[.int .u8 (b.toNat : Int)] 5)) := run_text (P := Tryd.prog) (e := 5) (w := wr.alloc (.cells #[.int .u8 (b.toNat : Int)] 5)) (g := wr.heap.size) (s := [b]) ⟨_, heap_alloc_new _ _, rfl⟩ 49 9 1 Tryd.underlying49 Tryd.underlying5 Tryd.underlying9
        go_wp2_with (fail)
        go_roundw
        case rel => exact ⟨k + 1, xs, p ++ ⟨#[b]⟩, by go_num, rfl, by omega, by rw [size_snoc]; omega, by omega, by have := hrest.out; rw [HR.out] at this; rw [tl_append]; exact this, hown.alloc _, HB.out.alloc hbs _⟩
        case measure => simp [RowKit.intOf] <;> omega
    · by_cases hk1 : k = s.size
      · subst hk1
        have HR := Lib.hid (size_eq s ▸ rest_end (l := tl s) (p := tl p))
        cases hpe : p.toList.isEmpty with
        | true =>
          have hp0 : tl p = [] := (empty_iff p).1 hpe
          go_wp2_with (fail)
          go_roundw
          case rel => exact ⟨s.size + 1, xs, ⟨#[]⟩, by go_num, rfl, by omega, Nat.zero_le _, by omega, by have := hrest.out; rw [HR.out, if_pos hp0, List.nil_append] at this; exact this, hown, HB.out⟩
          case measure => simp [RowKit.intOf] <;> omega
        | false =>
          go_wp2_with (at_builtin; refine wpList_append_own _ rfl _ _ 27 rfl w.heap.size 9 i0 (.string ⟨#[]⟩) 1 16 Tryd.underlying27 hi hz0 hz1 hz2 rfl (by decide) _ _ _ rfl (hown.alloc _) ⟨wr.heap.size, 0, none⟩ 1 1 [.string p] rfl rfl (cells_str p _ (heap_alloc_new _ _)) (by simp [Value.oneCell']) (by unfold maxLen; omega) (by omega) (by rw [World.size_alloc]; omega) ?_; intro v' w1 hown' hgrow _)
          have hp0 : ¬ tl p = [] := not_empty hpe
          go_roundw
          case rel => exact ⟨s.size + 1, xs ++ [p], ⟨#[]⟩, by go_num, rfl, by omega, Nat.zero_le _, by rw [List.length_append, List.length_singleton]; omega, by have := hrest.out; rw [HR.out, if_neg hp0, ← List.append_assoc] at this; rw [List.map_append]; exact this, by rw [List.length_append, List.length_singleton, sv_append]; exact hown', HB.out.trans ((Below.refl _ wr).alloc (by omega) _ |>.grown hgrow (by rw [World.size_alloc]; omega) (fun j hj => owns_ge hown j hj))⟩
          case measure => simp [RowKit.intOf] <;> omega
      · obtain rfl : k = s.size + 1 := by omega
        have hres : xs.map tl = ptsL (tl s) := by have := hrest.out; rw [size_eq s, rest_past, List.append_nil] at this; exact this
        have HX := Lib.hid hres
        clear hres
        go_wp2_with (fail)
        go_ret
        exact ⟨xs, _, rfl, HX.out, hown, HB.out⟩
end Go.Proofs.YtganpdplikbppaaDoor
