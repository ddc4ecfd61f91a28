/- slices.DeleteFunc over a row of one's own, by the closure that Free makes. -/
import Derived.Test.YthlodfahajaneaaKz
import Derived.Test.YthlodfahajaneaaShelf
set_option linter.unusedSimpArgs false
set_option linter.unusedVariables false
namespace Go.Proofs.Ythlodfahajaneaa
open Go Go.RowKit LockMath Go.Shelf Go.Lib Go.Sort
theorem free1_calls (p x : Int) (B : Nat) (W : World) (hc : W.cell? ⟨B, 0, none⟩ = some (.int .i64 p)) : Calls Try.prog 23 #[.int .i64 x, .pointer (some ⟨B, 0, none⟩)] W fun e w' => e = .returned (.bool (x == p)) ∧ W = w' := by
  go_enter Try.func23, Try.ntmps23
  go_wp2
  go_ret
  exact ⟨rfl, rfl⟩
theorem free1_gives (p x : Int) (B : Nat) (W : World) (hc : W.cell? ⟨B, 0, none⟩ = some (.int .i64 p)) : FnGives Try.prog 23 #[.pointer (some ⟨B, 0, none⟩)] #[.int .i64 x] (.bool (x == p)) W := by
  show Calls Try.prog 23 #[.int .i64 x, .pointer (some ⟨B, 0, none⟩)] W _
  refine (free1_calls p x B W hc).mono ?_
  rintro e w' ⟨rfl, rfl⟩
  exact ⟨rfl, 0, rfl⟩
theorem put_takeI {D : Array Int} {cur : Array Value} (h : D.size ≤ cur.size) : (Sort.putCells (Value.int .i64) 0 D cur).toList.take D.size = iv D.toList := by
  apply List.ext_getElem?
  intro t
  by_cases ht : t < D.size
  · rw [List.getElem?_take_of_lt ht, Array.getElem?_toList]
    unfold Sort.putCells iv
    rw [Array.getElem?_mapIdx, Array.getElem?_eq_getElem (show t < cur.size by omega), List.getElem?_map, Array.getElem?_toList, Array.getElem?_eq_getElem ht]
    simp only [Option.map_some]
    rw [if_pos ⟨Nat.zero_le _, by omega⟩, Nat.sub_zero, getElem!_pos D t ht]
  · rw [List.getElem?_eq_none (by rw [List.length_take]; omega), List.getElem?_eq_none (by rw [iv_length, Array.length_toList]; omega)]
theorem putRow_at {w : World} {g q : Nat} {D : Array Int} {cur : Array Value} {t : TypeId} (hg : w.heap[g]? = some (.cells cur t (0, 0))) :
    (Sort.putRow (Value.int .i64) (Sort.ahead w q) g 0 D).heap[g]? = some (.cells (Sort.putCells (Value.int .i64) 0 D cur) t (0, 0)) := by
  show (w.heap.modify g (Sort.onCells (Sort.putCells (Value.int .i64) 0 D)))[g]? = _
  rw [Array.getElem?_modify, if_pos rfl, hg]
  rfl
theorem putRow_only (w : World) (g q : Nat) (D : Array Int) : Only (fun k => k = g) w (Sort.putRow (Value.int .i64) (Sort.ahead w q) g 0 D) := by
  refine ⟨rfl, rfl, rfl, ?_, fun i hi hn => ?_⟩
  · show w.heap.size ≤ (w.heap.modify g (Sort.onCells (Sort.putCells (Value.int .i64) 0 D))).size
    rw [Array.size_modify]; omega
  · show (w.heap.modify g (Sort.onCells (Sort.putCells (Value.int .i64) 0 D)))[i]? = _
    rw [Array.getElem?_modify, if_neg (fun e => hn e.symm)]
theorem off_filter (p : Int) (l : List Int) : (l.filter fun x => !(x == p)) = offQ p l := by
  unfold offQ
  congr 1
  funext x
  rw [Bool.eq_iff_iff, decide_eq_true_eq]
  simp
theorem off_len (p : Int) (l : List Int) : (offQ p l).length ≤ l.length := List.length_filter_le _ _
/-- What the deletion leaves. -/
def DelP (w : World) (A : Option Addr) (l : List Int) (c : Nat) (p : Int) (e : Ending) (w' : World) : Prop :=
  e = .returned (.slice A (offQ p l).length c) ∧ OwnR w' 3 1 A (offQ p l).length c (iv (offQ p l)) ∧ Only (fun k => ∃ ad, A = some ad ∧ k = ad.block) w w'
theorem indexf_none (c : Nat) (fv : Value) (w : World) : Calls Try.prog 34 #[.slice none 0 c, fv] w fun e w' => e = .returned (.int .i64 (-1)) ∧ w' = w :=
  AnyE.slices_IndexFunc_empty (P := Try.prog) (ρ := Try.laysDel_ren) { Try.laysDel with } none c fv w
theorem delete_calls (w : World) (A : Option Addr) (l : List Int) (c : Nat) (p : Int) (B : Nat) (ho : OwnR w 3 1 A l.length c (iv l)) (hB : B < w.heap.size) (hc : w.cell? ⟨B, 0, none⟩ = some (.int .i64 p)) (hne : ∀ ad, A = some ad → B ≠ ad.block) (hlen : l.length ≤ 1099511627776) :
    Calls Try.prog 24 #[.slice A l.length c, .func (.func 23) #[] #[.pointer (some ⟨B, 0, none⟩)]] w (DelP w A l c p) := by
  obtain ⟨h1, h2, h3, h4⟩ := ho
  rcases h4 with ⟨rfl, rfl⟩ | ⟨g, cur, rfl, hg, h5, h6⟩
  · have h0 : l = [] := List.eq_nil_of_length_eq_zero (by omega)
    subst h0
    have CI := fun fv => indexf_none 0 fv w
    go_enter Try.func24, Try.ntmps24
    go_wp2_with (go_at_call 34; refine (CI _).mono ?_; rintro e w' ⟨rfl, rfl⟩)
    go_ret
    exact ⟨rfl, OwnR.nil _ _ _, Only.refl _ _⟩
  · have hne1 : B ≠ g := hne _ rfl
    have hsz : l.toArray.size = l.length := by simp
    have hH : Holds (Value.int .i64) w g 0 l.toArray := fun j hj => by
      rw [hsz] at hj
      refine ⟨?_, by simp [World.frozen?, hg]⟩
      rw [cell_of_row w g (0 + j) _ _ _ hg, Nat.zero_add, ← Array.getElem?_toList]
      have : (cur.toList.take (l.length * 1))[j]? = (iv l)[j]? := by rw [h6]
      rw [List.getElem?_take_of_lt (by omega), iv_get l j hj] at this
      rw [this, getElem!_pos l.toArray j (by simpa using hj)]
      simp [List.getD_eq_getElem?_getD, List.getElem?_eq_getElem hj]
    have hp : PredAt Try.prog 23 #[.pointer (some ⟨B, 0, none⟩)] (Value.int .i64) (fun x => x == p) w := fun W x hb => free1_gives p x B W ((hb.cell (p := ⟨B, 0, none⟩) hB).trans hc)
    have hpo : PredOver Try.prog 23 #[.pointer (some ⟨B, 0, none⟩)] (Value.int .i64) (fun x => x == p) g 0 l.toArray.size w := fun n os dk x _ => free1_gives p x B _ (by
      unfold sortWorld
      rw [cell?_grow _ _ _ (by show B < (putRow _ _ _ _ _).heap.size; rw [size_putRow]; exact hB), cell?_putRow_other _ _ g 0 _ _ (Or.inl hne1)]
      exact hc)
    have hcon := AnyE.slices_DeleteFunc (P := Try.prog) (ρ := Try.laysDel_ren) Try.laysDel (Value.int .i64) (fun _ => rfl) (fun x => x == p) 23 #[.pointer (some ⟨B, 0, none⟩)] (enters_of Try.func23 (by kernel_rfl) rfl) 0 Try.zeroValue3 g 0 c l.toArray w hp hpo hH (by rw [hsz]; omega) (by rw [hsz]; exact h2)
    change Calls Try.prog 24 _ _ _ at hcon
    rw [hsz] at hcon
    refine hcon.mono ?_
    rintro e w' ⟨rfl, q, rfl⟩
    rw [List.toList_toArray, off_filter]
    have hol := off_len p l
    have hDs : (offQ p l ++ List.replicate (l.length - (offQ p l).length) 0).toArray.size = l.length := by simp; omega
    have ht := put_takeI (D := (offQ p l ++ List.replicate (l.length - (offQ p l).length) 0).toArray) (cur := cur) (by rw [hDs]; omega)
    refine ⟨rfl, ⟨by rw [iv_length, Nat.mul_one], by omega, h3, .inr ⟨g, _, rfl, putRow_at hg, ?_, ?_⟩⟩, ?_⟩
    · have : (Sort.putCells (Value.int .i64) 0 (offQ p l ++ List.replicate (l.length - (offQ p l).length) 0).toArray cur).size = cur.size := by simp [Sort.putCells]
      rw [this]; exact h5
    · rw [hDs] at ht
      have h7 : ((Sort.putCells (Value.int .i64) 0 (offQ p l ++ List.replicate (l.length - (offQ p l).length) 0).toArray cur).toList.take l.length).take (offQ p l).length = iv (offQ p l) := by
        rw [ht]
        show (iv (offQ p l ++ List.replicate (l.length - (offQ p l).length) 0)).take (offQ p l).length = iv (offQ p l)
        rw [iv_append]
        exact List.take_left' (iv_length _)
      rw [List.take_take, Nat.min_eq_left hol] at h7
      rw [Nat.mul_one]
      exact h7
    · have := putRow_only w g q (offQ p l ++ List.replicate (l.length - (offQ p l).length) 0).toArray
      exact ⟨this.os, this.tape, this.output, this.size, fun k hk hn => this.block k hk fun e => hn ⟨_, rfl, e⟩⟩
end Go.Proofs.Ythlodfahajaneaa
