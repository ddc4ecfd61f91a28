/- A row of entries of the call's own, sorted by their places. -/
import Derived.Test.YtphjppnkackmmaaZe
import Derived.Test.YtphjppnkackmmaaShelf
set_option linter.unusedSimpArgs false
set_option linter.unusedVariables false
namespace Go.Proofs.Ytphjppnkackmmaa
open Go Go.RowKit SumMath WordMath Go.Shelf Go.Lib
instance : Inhabited Re := ⟨re0⟩
def encRe (x : Re) : List Value := [.int .i64 x.pos, .int .u64 (x.word : Int)]
abbrev cmpRe (x y : Re) : Int := Lib.compareInt x.pos y.pos
set_option maxHeartbeats 1000000 in
theorem closure_calls (x y : Re) (W : World) : Calls Try.prog 21 #[.agg #[.int .i64 x.pos, .int .u64 (x.word : Int)], .agg #[.int .i64 y.pos, .int .u64 (y.word : Int)]] W fun e w' => e = .returned (.int .i64 (cmpRe x y)) ∧ ∃ q os', w' = Sort.grow (W.drewN q) os' := by
  have hcon := fun W' => AnyG.cmp_Compare_int Try.laysCmp x.pos y.pos W'
  change ∀ W', Calls Try.prog 22 _ _ _ at hcon
  unfold cmpRe
  generalize Lib.compareInt x.pos y.pos = r at hcon ⊢
  go_enter Try.func21, Try.ntmps21
  go_wp2_with (go_at_call 22; refine (hcon _).mono ?_; rintro e w' ⟨rfl, rfl⟩)
  go_ret
  exact ⟨rfl, 0, _, by rw [Sort.alloc_eq_grow, Sort.alloc_eq_grow, Sort.grow_grow]; rfl⟩
theorem cmp_lays (blk off size : Nat) (w : World) : CmpLays Try.prog 21 #[] encRe 2 cmpRe blk off size w :=
  fun _ _ _ _ x y => closure_calls x y _
theorem lt_re (x y : Re) : ltOf cmpRe x y = decide (x.pos < y.pos) := by
  unfold ltOf cmpRe Lib.compareInt
  by_cases h1 : x.pos < y.pos
  · simp [h1]
  · by_cases h2 : y.pos < x.pos <;> simp [h1, h2]
theorem swo_re : Sort.SWO (ltOf cmpRe) where
  irrefl x := by rw [lt_re]; simp
  trans x y z h1 h2 := by rw [lt_re] at *; simp at *; omega
  ntrans x y z h1 h2 := by rw [lt_re] at *; simp at *; omega
theorem flat_ev (d : Array Re) : (Sort.flatK encRe 2 d).toList = ev d.toList := by
  apply List.ext_getElem?
  intro t
  have hs : (Sort.flatK encRe 2 d).toList.length = d.size * 2 := by rw [Array.length_toList, Sort.size_flatK]
  have hl : (ev d.toList).length = d.size * 2 := by rw [ev_length, Array.length_toList]
  by_cases ht : t < d.size * 2
  · have h1 : (Sort.flatK encRe 2 d).toList[t]? = some ((encRe d[t / 2]!)[t % 2]!) := by
      have := Sort.get_flatK encRe 2 d t ht
      rw [Array.getElem?_toList, Array.getElem?_eq_getElem (by rw [Sort.size_flatK]; exact ht)]
      rw [getElem!_pos (Sort.flatK encRe 2 d) t (by rw [Sort.size_flatK]; exact ht)] at this
      rw [this]
    have h2 := ev_get (L := d.toList) (k := t / 2) (by rw [Array.length_toList]; omega)
    have h3 : d.toList.getD (t / 2) re0 = d[t / 2]! := by
      rw [List.getD_eq_getElem?_getD, Array.getElem?_toList, Array.getElem?_eq_getElem (by omega), getElem!_pos d (t / 2) (by omega)]; rfl
    rw [h3] at h2
    rw [h1]
    rcases (show t % 2 = 0 ∨ t % 2 = 1 by omega) with hp | hp
    · have e : t = t / 2 * 2 := by omega
      rw [hp]
      conv => rhs; rw [e]
      rw [h2.1]; rfl
    · have e : t = t / 2 * 2 + 1 := by omega
      rw [hp]
      conv => rhs; rw [e]
      rw [h2.2]; rfl
  · rw [List.getElem?_eq_none (by rw [hs]; omega), List.getElem?_eq_none (by rw [hl]; omega)]
theorem put_take {F cur : Array Value} (h : F.size ≤ cur.size) : (Sort.putCells id 0 F cur).toList.take F.size = F.toList := by
  apply List.ext_getElem?
  intro t
  by_cases ht : t < F.size
  · rw [List.getElem?_take_of_lt ht, Array.getElem?_toList, Array.getElem?_toList]
    unfold Sort.putCells
    rw [Array.getElem?_mapIdx, Array.getElem?_eq_getElem (show t < cur.size by omega), Array.getElem?_eq_getElem ht]
    simp only [Option.map_some]
    rw [if_pos ⟨Nat.zero_le _, by omega⟩, Nat.sub_zero, getElem!_pos F t ht]; rfl
  · rw [List.getElem?_eq_none (by rw [List.length_take]; omega), List.getElem?_eq_none (by rw [Array.length_toList]; omega)]
theorem sortWorld_at {w : World} {g m : Nat} {d : Array Re} {os : Array Obj} {cur : Array Value} {t : TypeId} (hg : w.heap[g]? = some (.cells cur t (0, 0))) :
    (sortWorldK encRe 2 w g 0 m d os).heap[g]? = some (.cells (Sort.putCells id 0 (Sort.flatK encRe 2 d) cur) t (0, 0)) := by
  have hlt := lt_of_cells hg
  show ((w.heap.modify g (Sort.onCells (Sort.putCells id 0 (Sort.flatK encRe 2 d)))) ++ os)[g]? = _
  rw [Array.getElem?_append_left (by rw [Array.size_modify]; exact hlt), Array.getElem?_modify, if_pos rfl, hg]
  rfl
theorem sortWorld_only (w : World) (g m : Nat) (d : Array Re) (os : Array Obj) : Only (fun k => k = g) w (sortWorldK encRe 2 w g 0 m d os) := by
  refine ⟨rfl, rfl, rfl, ?_, fun i hi hn => ?_⟩
  · show w.heap.size ≤ ((w.heap.modify g (Sort.onCells (Sort.putCells id 0 (Sort.flatK encRe 2 d)))) ++ os).size
    rw [Array.size_append, Array.size_modify]; omega
  · show ((w.heap.modify g (Sort.onCells (Sort.putCells id 0 (Sort.flatK encRe 2 d)))) ++ os)[i]? = _
    rw [Array.getElem?_append_left (by rw [Array.size_modify]; exact hi), Array.getElem?_modify, if_neg (fun e => hn e.symm)]
/-- slices.SortFunc over a row of the call's own. -/
def SortPost (w0 w : World) (A : Option Addr) (n c : Nat) (C : List Re) (e : Ending) (w' : World) : Prop :=
  e = .returned (.tuple #[]) ∧ ∃ L : List Re, L.Perm C ∧ (L.Pairwise fun x y => x.pos ≤ y.pos) ∧ MineR w0 w' A n c L ∧ Only (fun k => ∃ ad, A = some ad ∧ k = ad.block) w w'
theorem sort_calls {w0 w : World} {A : Option Addr} {n c : Nat} {C : List Re} (h : MineR w0 w A n c C) (hn : C.length = n) (hsz : n ≤ 1099511627776) :
    Calls Try.prog 20 #[.slice A n c, .func (.func 21) #[] #[]] w (SortPost w0 w A n c C) := by
  rcases Nat.eq_zero_or_pos n with h0 | h0
  · subst h0
    have hC : C = [] := List.eq_nil_of_length_eq_zero hn
    subst hC
    have hcon := AnyF.slices_SortFunc_none (P := Try.prog) (ρ := Try.laysSort_ren) Try.laysSort A c (.func (.func 21) #[] #[]) w
    change Calls Try.prog 20 _ _ _ at hcon
    refine hcon.mono ?_
    rintro e w' ⟨rfl, rfl⟩
    exact ⟨rfl, [], List.Perm.refl _, List.Pairwise.nil, h, Only.refl _ _⟩
  · obtain ⟨h1, h2, h3, h4⟩ := h.1
    rcases h4 with ⟨_, h4⟩ | ⟨g, cur, rfl, hg, hcap, htake⟩
    · omega
    · have eg : ∀ args w, (callFunc 21 args).run Try.prog w = .ok (.enter 21 args) w := enters_of Try.func21 (by kernel_rfl) rfl
      have hds : C.toArray.size = n := by simpa using hn
      have hfs : (Sort.flatK encRe 2 C.toArray).size = n * 2 := by rw [Sort.size_flatK, hds]
      have hH : Sort.HoldsK encRe 2 w g 0 C.toArray := by
        intro j hj
        rw [hfs] at hj
        refine ⟨?_, frozen_of hg⟩
        rw [Nat.zero_add, cell_of_row w g j _ _ _ hg]
        have e1 : (Sort.flatK encRe 2 C.toArray).toList[j]? = cur[j]? := by
          rw [flat_ev, show C.toArray.toList = C from List.toList_toArray, ← htake, List.getElem?_take_of_lt hj, Array.getElem?_toList]
        rw [← e1, Array.getElem?_toList, Array.getElem?_eq_getElem (by rw [hfs]; exact hj), getElem!_pos (Sort.flatK encRe 2 C.toArray) j (by rw [hfs]; exact hj)]; rfl
      have hcon := AnyQ.slices_SortFunc (P := Try.prog) (ρ := Try.laysSort_ren) Try.laysSort 2 Try.isAgg38 Try.sizeOf38 encRe (fun _ => rfl) (fun x v hv => by simp [encRe] at hv; rcases hv with rfl | rfl <;> rfl) cmpRe swo_re 21 #[] g 0 c C.toArray w eg (cmp_lays g 0 C.toArray.size w) hH (lt_of_cells hg) (by rw [hds]; omega)
      change Calls Try.prog 20 _ _ _ at hcon
      rw [hds] at hcon
      refine hcon.mono ?_
      rintro e w' ⟨rfl, d', m, os, hp, hs, rfl⟩
      have hd' : d'.size = n := by rw [hp.1, hds]
      refine ⟨rfl, d'.toList, ?_, ?_, ⟨⟨?_, h2, h3, .inr ⟨g, _, rfl, sortWorld_at hg, ?_, ?_⟩⟩, h.2⟩, ?_⟩
      · have := hp.2.2
        rw [show d'.extract 0 n = d' by rw [← hd']; simp, show C.toArray.extract 0 n = C.toArray by rw [← hds]; simp] at this
        simpa using this
      · rw [List.pairwise_iff_getElem]
        intro i j hi hj hij
        rw [Array.length_toList] at hi hj
        have := hs i j (Nat.zero_le _) hij (by omega)
        rw [lt_re, decide_eq_false_iff_not, getElem!_pos d' j hj, getElem!_pos d' i hi] at this
        rw [Array.getElem_toList, Array.getElem_toList]
        omega
      · rw [ev_length, Array.length_toList, hd']
      · unfold Sort.putCells
        rw [Array.size_mapIdx]; exact hcap
      · have hF : (Sort.flatK encRe 2 d').size = n * 2 := by rw [Sort.size_flatK, hd']
        have := put_take (F := Sort.flatK encRe 2 d') (cur := cur) (by rw [hF]; exact Nat.le_trans (Nat.mul_le_mul_right 2 h2) hcap)
        rw [hF, flat_ev] at this
        exact this
      · have ho := sortWorld_only w g m d' os
        exact ⟨ho.os, ho.tape, ho.output, ho.size, fun i hi hn => ho.block i hi fun e => hn ⟨_, rfl, e⟩⟩
end Go.Proofs.Ytphjppnkackmmaa
