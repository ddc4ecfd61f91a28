/- slices.Clone, Pending, Words, Kept. -/
import Derived.Test.YtghppmgieljgiaaMed3
namespace Go.Proofs.Ytghppmgieljgiaa
open Go.RowKit
section
variable {P : Program} {w : World}
/-- 'append(S{}, s...)', an empty row of the call's own (block g0) ahead of it: a row of the call's own that reads as s. -/
theorem run_clone_r (t ty e : TypeId) (i : TypeInfo) (z : Value) (size bytes : Nat) (ht : P.underlying t = some (.slice e)) (hi : P.info? e = some i) (hz : i.zero = some z)
    (hsize : i.size = size) (hby : i.bytes = bytes) (hzs : z.cells.size = size) (hs0 : 0 < size)
    (g0 : Nat) (cur0 : Array Value) (h0 : w.heap[g0]? = some (.cells cur0 e (0, 0))) (A : Option Addr) (n c : Nat) (xs : List Value) (hr : Cel w A xs) (hl : xs.length = n * size) (h1 : ∀ u ∈ xs, u.oneCell' = true) (hm : n ≤ 1099511627776) (hb : bytes ≤ 64) :
    ∃ A' c' w', (Builtin.append_ #[t, t] ty #[.slice (some ⟨g0, 0, none⟩) 0 0, .slice A n c]).run P w = .ok (.slice A' n c') w' ∧ OwnR w' e size A' n c' xs ∧ w.grownBy w' (some g0) ∧ ∃ g, A' = some ⟨g, 0, none⟩ ∧ (g = g0 ∨ g = w.heap.size) := by
  rcases Nat.eq_zero_or_pos n with hn | hn
  · subst hn
    obtain rfl : xs = [] := List.eq_nil_of_length_eq_zero (by simpa using hl)
    refine ⟨some ⟨g0, 0, none⟩, 0, w, ?_, ⟨by simp, Nat.le_refl _, Nat.zero_le _, .inr ⟨g0, cur0, rfl, h0, by simp, by simp⟩⟩, World.grownBy.refl w _, g0, rfl, .inl rfl⟩
    have hld : ∀ a : Addr, (loadCells a 0).run P w = .ok #[] w := fun a => run_loadCells_list (P := P) w a [] (by simp)
    rcases A with _ | ad
    · simp [Builtin.append_, run_underlying ht, sizeOf, typeInfo, hi, Builtin.lenOf, Builtin.firstCells, storeCells]
    · simp [Builtin.append_, run_underlying ht, sizeOf, typeInfo, hi, Builtin.lenOf, Builtin.firstCells, hld, storeCells]
  · obtain ⟨ad, rfl, _, hc⟩ := hr (by rw [hl]; exact Nat.mul_pos hn hs0)
    have hbb : n * bytes ≤ 1099511627776 * 64 := Nat.mul_le_mul hm hb
    obtain ⟨g, c', w', hrun, h2, h3, h4⟩ := run_append_r (P := P) w t ty e i z size bytes ht hi hz hsize hby hzs (some ⟨g0, 0, none⟩) 0 0 [] ⟨by simp, Nat.le_refl _, Nat.zero_le _, .inr ⟨g0, cur0, rfl, h0, by simp, by simp⟩⟩ ad n c xs hl hc h1 hn (by unfold maxLen; omega) (by rw [Nat.zero_add]; omega)
    rw [List.nil_append] at h2
    rw [Nat.zero_add] at hrun h2
    exact ⟨_, c', w', hrun, h2, h3, g, rfl, h4.imp (fun h => by injection h with h; injection h with h; exact h.symm) id⟩
theorem wpList_clone_r {ops : Array Oper} {rest : List Oper} {o : Oper} {a : Act} {Q : Exit → Act → World → Prop} (hgd : o.guard = none) (s x : Operand) (t : TypeId)
    (ho : o.op = .call { callee := .builtin .append, args := #[s, x], argTypes := #[t, t] })
    (e : TypeId) (i : TypeInfo) (z : Value) (size bytes : Nat) (ht : P.underlying t = some (.slice e)) (hi : P.info? e = some i) (hz : i.zero = some z)
    (hsize : i.size = size) (hby : i.bytes = bytes) (hzs : z.cells.size = size) (hs0 : 0 < size)
    (g0 : Nat) (cur0 : Array Value) (h0 : w.heap[g0]? = some (.cells cur0 e (0, 0))) (A : Option Addr) (n c : Nat) (xs : List Value) (hr : Cel w A xs) (hl : xs.length = n * size) (h1 : ∀ u ∈ xs, u.oneCell' = true) (hm : n ≤ 1099511627776) (hb : bytes ≤ 64)
    (hs : a.eval s = .slice (some ⟨g0, 0, none⟩) 0 0) (hx : a.eval x = .slice A n c)
    (h : ∀ g c' w', OwnR w' e size (some ⟨g, 0, none⟩) n c' xs → w.grownBy w' (some g0) → (g = g0 ∨ g = w.heap.size) → wpList P ops Q rest (a.put o.dst (.slice (some ⟨g, 0, none⟩) n c')) w') : wpList P ops Q (o :: rest) a w :=
  wpList_plain hgd fun _ hK => by
    obtain ⟨A', c', w', hrun, h2, h3, g, rfl, h4⟩ := run_clone_r (P := P) (w := w) t o.type e i z size bytes ht hi hz hsize hby hzs hs0 g0 cur0 h0 A n c xs hr hl h1 hm hb
    unfold Oper.wp execOp
    simp only [ho, resolve, invoke, builtin, Sem.run_bind, Sem.run_pure, Result.andThen_ok, List.map_toArray, List.map_cons, List.map_nil, hs, hx, hrun]
    exact hK _ _ (h g c' w' h2 h3 h4)
end
theorem word_info : (Try.prog.info? 32).map (fun i => (i.zero, i.size, i.bytes)) = some (some (.int .u64 0), 1, 8) := by kernel_rfl
/-- What a clone is: a row of the call's own. -/
def Cloned (w : World) (e : TypeId) (size n : Nat) (xs : List Value) (x : Ending) (w' : World) : Prop :=
  ∃ A c, x = .returned (.slice A n c) ∧ OwnR w' e size A n c xs ∧ Below w.heap.size w w' ∧ ∀ ad, A = some ad → w.heap.size ≤ ad.block
theorem clonep_calls (w : World) (A : Option Addr) (L : List Pn) (c : Nat) (hr : Cel w A (pv L)) (hm : L.length ≤ 1099511627776) :
    Calls Try.prog 37 #[.slice A L.length c] w (Cloned w 61 3 L.length (pv L)) := by
  obtain ⟨i0, hi0, hz0, hs0, hb0⟩ := info_parts pend_info
  have HI := Lib.hid hi0
  have HZ := Lib.hid hz0
  have HS := Lib.hid hs0
  have HB := Lib.hid hb0
  clear hi0 hz0 hs0 hb0
  have heq := fun w A n c => Lib.run_eql_slice_nil (P := Try.prog) w 48 61 A n c 0 0 Try.underlying48
  rcases A with _ | ad
  · have h0 : L = [] := by
      cases L with
      | nil => rfl
      | cons p r => obtain ⟨ad, h, _⟩ := hr (by simp [pv]); cases h
    subst h0
    go_enter Try.func37, Try.ntmps37
    go_wp2
    go_ret
    exact ⟨none, 0, rfl, OwnR.nil _ _ _, Below.refl _ _, fun ad h => by cases h⟩
  · go_enter Try.func37, Try.ntmps37
    go_wp2_with (at_builtin; refine wpList_clone_r rfl (.tmp 5) (.tmp 6) 48 rfl 61 i0 _ 3 24 Try.underlying48 HI.out HZ.out HS.out HB.out rfl (by decide) w.heap.size _ (heap_alloc_new _ _) (some ad) L.length c (pv L) (hr.below ((Below.refl _ _).alloc (Nat.le_refl _) _)) (pv_length L) (pv_one L) hm (by decide) rfl rfl ?_; intro g c' w' hown hgr hg)
    go_ret
    exact ⟨_, _, rfl, hown, ((Below.refl _ _).alloc (Nat.le_refl _) _).grown hgr (by simp) (fun k e => by injection e with e; omega), fun ad' e => by injection e with e; subst e; show w.heap.size ≤ g; simp at hg; omega⟩
theorem clonew_calls (w : World) (A : Option Addr) (l : List Nat) (c : Nat) (hr : Cel w A (wv l)) (hm : l.length ≤ 1099511627776) :
    Calls Try.prog 38 #[.slice A l.length c] w (Cloned w 32 1 l.length (wv l)) := by
  obtain ⟨i0, hi0, hz0, hs0, hb0⟩ := info_parts word_info
  have HI := Lib.hid hi0
  have HZ := Lib.hid hz0
  have HS := Lib.hid hs0
  have HB := Lib.hid hb0
  clear hi0 hz0 hs0 hb0
  have heq := fun w A n c => Lib.run_eql_slice_nil (P := Try.prog) w 50 32 A n c 0 0 Try.underlying50
  rcases A with _ | ad
  · have h0 : l = [] := by
      cases l with
      | nil => rfl
      | cons p r => obtain ⟨ad, h, _⟩ := hr (by simp [wv]); cases h
    subst h0
    go_enter Try.func38, Try.ntmps38
    go_wp2
    go_ret
    exact ⟨none, 0, rfl, OwnR.nil _ _ _, Below.refl _ _, fun ad h => by cases h⟩
  · go_enter Try.func38, Try.ntmps38
    go_wp2_with (at_builtin; refine wpList_clone_r rfl (.tmp 5) (.tmp 6) 50 rfl 32 i0 _ 1 8 Try.underlying50 HI.out HZ.out HS.out HB.out rfl (by decide) w.heap.size _ (heap_alloc_new _ _) (some ad) l.length c (wv l) (hr.below ((Below.refl _ _).alloc (Nat.le_refl _) _)) (by rw [wv_length, Nat.mul_one]) (wv_one l) hm (by decide) rfl rfl ?_; intro g c' w' hown hgr hg)
    go_ret
    exact ⟨_, _, rfl, hown, ((Below.refl _ _).alloc (Nat.le_refl _) _).grown hgr (by simp) (fun k e => by injection e with e; omega), fun ad' e => by injection e with e; subst e; show w.heap.size ≤ g; simp at hg; omega⟩
theorem Blkp.cel {w : World} {e : TypeId} {g : Nat} {l : List Nat} (h : Blkp e w g l) : Cel w (some ⟨g, 0, none⟩) (wv l) := fun _ =>
  ⟨_, rfl, h.lt, fun j u hu => by
    have hj : j < l.length := by have := (List.getElem?_eq_some_iff.1 hu).1; rwa [wv_length] at this
    rw [wv_get l j hj] at hu
    injection hu with hu
    rw [add_zero_block, ← hu]
    exact h.cell j hj⟩
section
variable {w : World} {g : Nat} {F : Nat → Prop} {K S : List Nat} {L : List Pn}
theorem pending_nil (w : World) : Calls Try.prog 25 #[.pointer none] w fun e w' => e = .returned (.slice none 0 0) ∧ w = w' := by
  go_enter Try.func25, Try.ntmps25
  go_wp2
  go_ret
  exact ⟨rfl, rfl⟩
theorem words_nil (w : World) : Calls Try.prog 27 #[.pointer none] w fun e w' => e = .returned (.slice none 0 0) ∧ w = w' := by
  go_enter Try.func27, Try.ntmps27
  go_wp2
  go_ret
  exact ⟨rfl, rfl⟩
theorem kept_nil (w : World) : Calls Try.prog 29 #[.pointer none] w fun e w' => e = .returned (.slice none 0 0) ∧ w = w' := by
  go_enter Try.func29, Try.ntmps29
  go_wp2
  go_ret
  exact ⟨rfl, rfl⟩
theorem pending_calls (h : Dev w g F K S L) (hm : L.length ≤ 1099511627776) : Calls Try.prog 25 #[.pointer (some ⟨g, 0, none⟩)] w (Cloned w 61 3 L.length (pv L)) := by
  obtain ⟨gk, ck, gs, cs, A, cp, hd, f1, f2, f3, f4, f5⟩ := h
  have c2 := hd.c2
  go_enter Try.func25, Try.ntmps25
  go_wp2_with (go_at_call 37; refine (clonep_calls w A L cp hd.hp.cel hm).mono ?_; rintro e w' ⟨A', c', rfl, h1, h2, h3⟩)
  go_ret
  exact ⟨_, _, rfl, h1, h2, h3⟩
theorem words_calls (h : Dev w g F K S L) (hm : S.length ≤ 1099511627776) : Calls Try.prog 27 #[.pointer (some ⟨g, 0, none⟩)] w (Cloned w 32 1 S.length (wv S)) := by
  obtain ⟨gk, ck, gs, cs, A, cp, hd, f1, f2, f3, f4, f5⟩ := h
  have c1 := hd.c1
  go_enter Try.func27, Try.ntmps27
  go_wp2_with (go_at_call 38; refine (clonew_calls w _ S cs hd.hs.cel hm).mono ?_; rintro e w' ⟨A', c', rfl, h1, h2, h3⟩)
  go_ret
  exact ⟨_, _, rfl, h1, h2, h3⟩
theorem kept_calls (h : Dev w g F K S L) (hm : K.length ≤ 1099511627776) : Calls Try.prog 29 #[.pointer (some ⟨g, 0, none⟩)] w (Cloned w 32 1 K.length (wv K)) := by
  obtain ⟨gk, ck, gs, cs, A, cp, hd, f1, f2, f3, f4, f5⟩ := h
  have c0 := hd.c0
  go_enter Try.func29, Try.ntmps29
  go_wp2_with (go_at_call 38; refine (clonew_calls w _ K ck hd.hk.cel hm).mono ?_; rintro e w' ⟨A', c', rfl, h1, h2, h3⟩)
  go_ret
  exact ⟨_, _, rfl, h1, h2, h3⟩
end
end Go.Proofs.Ytghppmgieljgiaa
