/- What is seen through a table: places below a bound, stored and done one by one. No program stands here. -/
import Derived.Test.YtphjppnkackmmaaZm
set_option linter.unusedSimpArgs false
set_option linter.unusedVariables false
namespace Go.Proofs.Ytphjppnkackmmaa.SumMath
/-- 'x%m + m)%m'. -/
theorem mod_mod (x m : Int) (hm : 0 < m) : (x.tmod m + m).tmod m = x % m := by
  have h1 := Int.tmod_lt_of_pos x hm
  have h2 : -m < x.tmod m := by
    rcases Int.le_total 0 x with h | h
    · have := Int.tmod_nonneg m h; omega
    · have h3 := Int.tmod_lt_of_pos (-x) hm
      rw [Int.neg_tmod] at h3
      omega
  rw [Int.tmod_eq_emod_of_nonneg (by omega), Int.add_emod_right]
  have h4 : x = m * (x.tdiv m) + x.tmod m := (Int.mul_tdiv_add_tmod x m).symm
  conv => rhs; rw [h4, Int.add_comm, Int.add_mul_emod_self_left]
theorem mod_in (x : Int) (m : Nat) (hm : 0 < m) : 0 ≤ x % (m : Int) ∧ x % (m : Int) < (m : Int) :=
  ⟨Int.emod_nonneg _ (by omega), Int.emod_lt_of_pos _ (by omega)⟩
/-- An entry at a place below m. -/
def inM (m : Nat) (e : Re) : Re := ⟨e.pos % (m : Int), e.word⟩
def ownM (m : Nat) (L : List Re) : List Re := L.map (inM m)
theorem ownM_len (m : Nat) (L : List Re) : (ownM m L).length = L.length := by simp [ownM]
theorem ownM_in {m : Nat} (hm : 0 < m) (L : List Re) : (ownM m L).all (inB m) = true := by
  rw [List.all_eq_true]
  intro e he
  obtain ⟨x, _, rfl⟩ := List.mem_map.1 he
  exact decide_eq_true (mod_in x.pos m hm)
theorem ownM_pos {m : Nat} (hm : 0 < m) (L : List Re) : negB (ownM m L) = false := by
  unfold negB
  rw [List.any_eq_false]
  intro e he
  obtain ⟨x, _, rfl⟩ := List.mem_map.1 he
  have h1 := (mod_in x.pos m hm).1
  show ¬ decide (x.pos % (m : Int) < 0) = true
  rw [decide_eq_true_eq]
  exact Int.not_lt.2 h1
theorem ownM_more {m : Nat} {L : List Re} {k : Nat} (h : k < L.length) : ownM m (L.take (k + 1)) = ownM m (L.take k) ++ [inM m (L.getD k re0)] := by
  have e : L.take (k + 1) = L.take k ++ [L.getD k re0] := by
    rw [List.take_add_one, List.getD_eq_getElem?_getD, List.getElem?_eq_getElem h]; rfl
  unfold ownM
  rw [e, List.map_append]; rfl
theorem in_pos {m : Nat} {e : Re} (h : inB m e = true) : 0 ≤ e.pos ∧ e.pos < (m : Int) := of_decide_eq_true h
/-- Two rows say it: which places are there, and their words. -/
structure Told (m : Nat) (T : List Re) (is : List Bool) (wd : List Nat) : Prop where
  rise : Rise T
  il : is.length = m
  wl : wd.length = m
  at' : ∀ a, a < m → lkT T (a : Int) = if is.getD a false then some (wd.getD a 0) else none
  inn : T.all (inB m) = true
theorem getD_setB (l : List Bool) (i j : Nat) (v : Bool) : (l.set i v).getD j false = if i = j ∧ i < l.length then v else l.getD j false := by
  rw [List.getD_eq_getElem?_getD, List.getElem?_set, List.getD_eq_getElem?_getD]
  by_cases h : i = j
  · subst h
    by_cases h2 : i < l.length
    · simp [h2]
    · rw [List.getElem?_eq_none (show l.length ≤ i by omega)]
      simp [h2]
  · simp [h]
theorem Told.start (m : Nat) : Told m [] (List.replicate m false) (List.replicate m 0) :=
  ⟨Rise.nil, by simp, by simp, fun a ha => by
    have e : (List.replicate m false).getD a false = false := by
      rw [List.getD_eq_getElem?_getD, List.getElem?_replicate]; split <;> rfl
    rw [e]; rfl, rfl⟩
theorem Told.has {m : Nat} {T : List Re} {is : List Bool} {wd : List Nat} (h : Told m T is wd) {a : Nat} (ha : a < m) : hasT T (a : Int) = is.getD a false := by
  unfold hasT
  rw [h.at' a ha]
  cases is.getD a false <;> rfl
theorem Told.load {m : Nat} {T : List Re} {is : List Bool} {wd : List Nat} (h : Told m T is wd) {a : Nat} (ha : a < m) (b : Nat) : loadT T (a : Int) b = if is.getD a false then wd.getD a 0 else b := by
  unfold loadT
  rw [h.at' a ha]
  cases is.getD a false <;> rfl
theorem Told.put {m : Nat} {T : List Re} {is : List Bool} {wd : List Nat} (h : Told m T is wd) {p : Nat} (hp : p < m) (x : Nat) :
    Told m (putT T ⟨(p : Int), x⟩) (is.set p true) (wd.set p x) ∧ (putT T ⟨(p : Int), x⟩).length = if is.getD p false then T.length else T.length + 1 := by
  refine ⟨⟨h.rise.put _, by rw [List.length_set]; exact h.il, by rw [List.length_set]; exact h.wl, fun a ha => ?_, ?_⟩, ?_⟩
  · rw [lk_put, getD_setB, getD_setN, h.at' a ha, h.il, h.wl]
    by_cases c : p = a
    · subst c
      have c2 : p = p ∧ p < m := ⟨rfl, hp⟩
      rw [if_pos c2, if_pos c2, if_pos rfl, if_pos rfl]
    · have c2 : ¬ (p = a ∧ p < m) := fun h => c h.1
      rw [if_neg c2, if_neg c2, if_neg (show ¬ ((p : Int) = (a : Int)) by omega)]
  · rw [List.all_eq_true]
    intro e he
    rcases mem_put he with rfl | he
    · exact decide_eq_true ⟨by simp, by simp only; omega⟩
    · exact List.all_eq_true.1 h.inn e he
  · rw [len_put h.rise, h.has hp]
theorem Told.del {m : Nat} {T : List Re} {is : List Bool} {wd : List Nat} (h : Told m T is wd) {p : Nat} (hp : p < m) :
    Told m (delT T (p : Int)) (is.set p false) wd ∧ (delT T (p : Int)).length + (if is.getD p false then 1 else 0) = T.length := by
  refine ⟨⟨h.rise.del _, by rw [List.length_set]; exact h.il, h.wl, fun a ha => ?_, del_all h.inn _⟩, ?_⟩
  · rw [lk_del, getD_setB, h.at' a ha, h.il]
    by_cases c : p = a
    · subst c
      have c2 : p = p ∧ p < m := ⟨rfl, hp⟩
      rw [if_pos c2, if_pos rfl, if_neg (by decide)]
    · have c2 : ¬ (p = a ∧ p < m) := fun h => c h.1
      rw [if_neg c2, if_neg (show ¬ ((p : Int) = (a : Int)) by omega)]
  · rw [← h.has hp]
    cases hh : hasT T (p : Int) with
    | false => rw [del_none hh]; rfl
    | true => rw [if_pos rfl]; exact len_del h.rise hh
/-- What everybody sees of words, through a table. -/
structure See (m : Nat) (T : List Re) (w s : List Nat) : Prop where
  rise : Rise T
  wl : w.length = m
  sl : s.length = m
  inn : T.all (inB m) = true
  see : ∀ a, a < m → loadT T (a : Int) (w.getD a 0) = s.getD a 0
theorem See.start (w : List Nat) : See w.length [] w w := ⟨Rise.nil, rfl, rfl, rfl, fun a _ => rfl⟩
theorem See.put {m : Nat} {T : List Re} {w s : List Nat} (h : See m T w s) {e : Re} (he : inB m e = true) : See m (putT T e) w (s.set e.pos.toNat e.word) := by
  obtain ⟨h0, h1⟩ := in_pos he
  refine ⟨h.rise.put e, h.wl, by rw [List.length_set]; exact h.sl, ?_, fun a ha => ?_⟩
  · rw [List.all_eq_true]
    intro x hx
    rcases mem_put hx with rfl | hx
    · exact he
    · exact List.all_eq_true.1 h.inn x hx
  · rw [load_put, getD_setN, h.see a ha, h.sl]
    by_cases c : e.pos = (a : Int)
    · rw [if_pos c, if_pos ⟨by omega, by omega⟩]
    · rw [if_neg c, if_neg (by omega)]
/-- Between two stores: the entries of l from k on are still there. -/
structure Part (m : Nat) (l : List Re) (k : Nat) (U : List Re) (w s : List Nat) : Prop where
  see : See m U w s
  lr : Rise l
  lin : l.all (inB m) = true
  rest : ∀ j, k ≤ j → j < l.length → lkT U (l.getD j re0).pos = some (l.getD j re0).word
theorem Part.start {m : Nat} {T : List Re} {w s : List Nat} (h : See m T w s) : Part m T 0 T w s :=
  ⟨h, h.rise, h.inn, fun j _ hj => mem_lk h.rise (by rw [List.getD_eq_getElem?_getD, List.getElem?_eq_getElem hj]; exact List.getElem_mem hj)⟩
theorem Part.at {m : Nat} {l : List Re} {k : Nat} {U : List Re} {w s : List Nat} (h : Part m l k U w s) (hk : k < l.length) : 0 ≤ (l.getD k re0).pos ∧ (l.getD k re0).pos < (m : Int) ∧ hasT U (l.getD k re0).pos = true := by
  have := in_pos (List.all_eq_true.1 h.lin (l.getD k re0) (by rw [List.getD_eq_getElem?_getD, List.getElem?_eq_getElem hk]; exact List.getElem_mem hk))
  refine ⟨this.1, this.2, ?_⟩
  unfold hasT
  rw [h.rest k (Nat.le_refl _) hk]; rfl
theorem Part.skip {m : Nat} {l : List Re} {k : Nat} {U : List Re} {w s : List Nat} (h : Part m l k U w s) : Part m l (k + 1) U w s :=
  ⟨h.see, h.lr, h.lin, fun j hj => h.rest j (by omega)⟩
theorem rise_getD {l : List Re} (h : Rise l) {i j : Nat} (hij : i < j) (hj : j < l.length) : (l.getD i re0).pos < (l.getD j re0).pos := by
  have := List.pairwise_iff_getElem.1 h i j (by omega) hj hij
  rw [List.getD_eq_getElem?_getD, List.getD_eq_getElem?_getD, List.getElem?_eq_getElem hj, List.getElem?_eq_getElem (show i < l.length by omega)]
  exact this
theorem Part.store {m : Nat} {l : List Re} {k : Nat} {U : List Re} {w s : List Nat} (h : Part m l k U w s) (hk : k < l.length) :
    Part m l (k + 1) (delT U (l.getD k re0).pos) (w.set (l.getD k re0).pos.toNat (l.getD k re0).word) s := by
  obtain ⟨h0, h1, _⟩ := h.at hk
  have hl := h.rest k (Nat.le_refl _) hk
  refine ⟨⟨h.see.rise.del _, by rw [List.length_set]; exact h.see.wl, h.see.sl, del_all h.see.inn _, fun a ha => ?_⟩, h.lr, h.lin, fun j hj hj2 => ?_⟩
  · rw [store_one hl h0 (by rw [h.see.wl]; exact h1) (by rw [h.see.wl]; exact ha)]
    exact h.see.see a ha
  · rw [lk_del, if_neg (by have := rise_getD h.lr (show k < j by omega) hj2; omega)]
    exact h.rest j (by omega) hj2
/-- All of it stored: the words are what is seen. -/
theorem See.done {m : Nat} {T : List Re} {w s : List Nat} (h : See m T w s) : appL w T = s := by
  refine List.ext_getElem (by rw [app_len, h.wl, h.sl]) fun i h1 h2 => ?_
  have hi : i < m := by rw [h.sl] at h2; exact h2
  have e := store_all (w := w) h.rise (by rw [h.wl]; exact h.inn) (show i < w.length by rw [h.wl]; exact hi)
  rw [h.see i hi, List.getD_eq_getElem?_getD, List.getElem?_eq_getElem h1, List.getD_eq_getElem?_getD, List.getElem?_eq_getElem h2] at e
  exact e
end Go.Proofs.Ytphjppnkackmmaa.SumMath
