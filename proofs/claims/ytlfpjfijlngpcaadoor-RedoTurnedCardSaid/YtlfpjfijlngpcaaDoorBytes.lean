/- Blocks of bytes of the call's own, and the texts made of them. -/
import Derived.Test.YtlfpjfijlngpcaaDoorMem
import Derived.Laws.BytesString
import Derived.Laws.Cells
set_option linter.unusedSimpArgs false
set_option linter.unusedVariables false
namespace Go.Proofs.YtlfpjfijlngpcaaDoor
open Go.RowKit

/-- Bytes as values. -/
def bv (s : List UInt8) : List Value := s.map fun x => Value.int .u8 (x.toNat : Int)
theorem bv_length (s : List UInt8) : (bv s).length = s.length := by simp [bv]
theorem bv_get (s : List UInt8) (k : Nat) (h : k < s.length) : (bv s)[k]? = some (.int .u8 ((s.getD k 0).toNat : Int)) := by
  simp [bv, List.getElem?_map, List.getD_eq_getElem?_getD, List.getElem?_eq_getElem h]
theorem bv_set (s : List UInt8) (k : Nat) (b : UInt8) : bv (s.set k b) = (bv s).set k (.int .u8 (b.toNat : Int)) := by simp [bv, List.map_set]
theorem bv_append (s t : List UInt8) : bv (s ++ t) = bv s ++ bv t := by simp [bv]
/-- A block of bytes whose first cells are known (e: uint8's number). -/
def Bblk (e : TypeId) (w : World) (g : Nat) (s : List UInt8) : Prop := ∃ cur : Array Value, w.heap[g]? = some (.cells cur e (0, 0)) ∧ cur.toList.take s.length = bv s
section
variable {e : TypeId} {w w' : World} {g : Nat} {s : List UInt8}
theorem Bblk.cell (h : Bblk e w g s) (k : Nat) (hk : k < s.length) : w.cell? ⟨g, k, none⟩ = some (.int .u8 ((s.getD k 0).toNat : Int)) := by
  obtain ⟨cur, h, ht⟩ := h
  rw [cell_of_row w g k _ e (0, 0) h, ← bv_get s k hk, ← ht, List.getElem?_take_of_lt hk, Array.getElem?_toList]
theorem Bblk.frozen (h : Bblk e w g s) (k : Nat) : w.frozen? ⟨g, k, none⟩ = false := by
  obtain ⟨cur, h, _⟩ := h
  simp [World.frozen?, h]
theorem Bblk.drewN (h : Bblk e w g s) (n : Nat) : Bblk e (w.drewN n) g s := h
theorem Bblk.set (h : Bblk e w g s) (k : Nat) (b : UInt8) : Bblk e (w.setCell ⟨g, k, none⟩ (.int .u8 (b.toNat : Int))) g (s.set k b) := by
  obtain ⟨cur, h, ht⟩ := h
  refine ⟨cur.setIfInBounds k (.int .u8 (b.toNat : Int)), by simp [World.setCell, Array.getElem?_modify, h], ?_⟩
  rw [bv_set, ← ht, Array.toList_setIfInBounds, List.length_set, List.take_set]
theorem Bblk.new (w : World) (e : TypeId) (n : Nat) : Bblk e (w.alloc (.cells (madeCells #[.int .u8 0] n) e)) w.heap.size (List.replicate n 0) := by
  refine ⟨_, heap_alloc_new w _, ?_⟩
  apply List.ext_getElem
  · simp [madeCells, bv]
  · intro i h1 h2
    simp [madeCells, bv, Nat.mod_one]
end
theorem foldl_push (s : List UInt8) : ∀ r : ByteArray, ((s.map fun x => (x.toNat : Int)).foldl (fun r n => r.push (UInt8.ofNat n.toNat)) r) = ⟨(r.data.toList ++ s).toArray⟩ := by
  induction s with
  | nil => intro r; simp
  | cons b s ih =>
    intro r
    simp only [List.map_cons, List.foldl_cons]
    rw [ih]
    congr 2
    simp [ByteArray.push]
/-- 'string(b)' of a block of bytes. -/
theorem run_text {P : Program} {e : TypeId} {w : World} {g : Nat} {s : List UInt8} (h : Bblk e w g s) (src dst : TypeId) (cap : Nat)
    (hs : P.underlying src = some (.slice e)) (he : P.underlying e = some (.int .u8)) (hd : P.underlying dst = some .string) :
    (convert src dst (.slice (some ⟨g, 0, none⟩) s.length cap)).run P w = .ok (.string ⟨s.toArray⟩) w := by
  rw [run_convert_bytes_string w src dst e _ _ _ hs he hd]
  have hl := run_loadCells_list (P := P) w ⟨g, 0, none⟩ (bv s) (by
    intro j v hv
    have hj : j < s.length := by
      rcases Nat.lt_or_ge j s.length with h1 | h1
      · exact h1
      · rw [List.getElem?_eq_none (by rw [bv_length]; exact h1)] at hv; cases hv
    rw [add_zero_block, h.cell j hj, ← bv_get s j hj]; exact hv)
  rw [bv_length] at hl
  have e1 : (bv s).toArray = ((s.map fun x => (x.toNat : Int)).map (Value.int .u8)).toArray := by simp [bv]
  rw [e1] at hl
  rw [run_bytesToString w ⟨g, 0, none⟩ s.length cap _ hl, foldl_push]
  rfl
/-- 'string(b)' of an owned row of bytes. -/
theorem run_text_own {P : Program} {e : TypeId} {w : World} {base n : Nat} {v : Value} {s : List UInt8} (h : w.ownsRow base e 1 v n (bv s)) (src dst : TypeId)
    (hs : P.underlying src = some (.slice e)) (he : P.underlying e = some (.int .u8)) (hd : P.underlying dst = some .string) :
    (convert src dst v).run P w = .ok (.string ⟨s.toArray⟩) w := by
  have hl : n = s.length := by have := h.1; rw [bv_length] at this; omega
  subst hl
  rcases h.2 with ⟨rfl, h0⟩ | ⟨g, cap, cur, rfl, hg, hh, hn, hc, hsz, htake⟩
  · have : s = [] := List.eq_nil_of_length_eq_zero h0
    subst this
    rw [run_convert_bytes_string w src dst e _ _ _ hs he hd]
    rfl
  · exact run_text (s := s) ⟨cur, hh, by rw [Nat.mul_one] at htake; exact htake⟩ src dst cap hs he hd
theorem bv_one (s : List UInt8) : ∀ u ∈ bv s, u.oneCell' = true := by
  intro u hu
  simp only [bv, List.mem_map] at hu
  obtain ⟨x, _, rfl⟩ := hu
  rfl
end Go.Proofs.YtlfpjfijlngpcaaDoor
