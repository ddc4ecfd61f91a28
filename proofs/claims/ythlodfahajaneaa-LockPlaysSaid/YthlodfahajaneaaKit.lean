/- From 'the call hands back true, and below the old heap nothing has turned' to what a law's row asks. No program stands here. -/
import Derived.ProofKit
import Derived.Carry
import Derived.OpenShut
import Derived.Test.YthlodfahajaneaaMem
set_option linter.unusedSimpArgs false
set_option linter.unusedVariables false
namespace Go.Proofs.Ythlodfahajaneaa
open Go.ChangeShapes Go.WideShapes Go.RowKit

section
variable {H : Type} {enc : TypeId × Value → H} {P : Program}
/-- All arguments read behind the call as they did. -/
theorem trodAll_below (hl : laidOutB P = true) {W W' : World} (hb : Below W.heap.size W W') :
    ∀ {ts : List TypeId} {vs : List Value} {ds : List (DataW H)} {ps : List MemPlace}, (ts.all fun t => P.readableRec t && decide (t < P.types.size)) = true →
      DataW.TrodAll enc P W 0 (fun _ => true) true ts vs ds ps → (∀ x ∈ ps, x.block < W.heap.size) →
      DataW.TrodAll enc P W' 0 (fun b => decide (b < W.heap.size)) true ts vs ds ps
  | [], [], [], _, _, h, _ => h
  | t :: ts, v :: vs, d :: ds, ps, hr, h, hlt => by
    obtain ⟨p, q, h1, h2, rfl⟩ := h
    rw [List.all_cons, Bool.and_eq_true, Bool.and_eq_true, decide_eq_true_eq] at hr
    exact ⟨p, q, hb.trod (t := t) hl hr.1.1 hr.1.2 h1 fun x hx => hlt x (List.mem_append_left _ hx), trodAll_below hl hb hr.2 h2 fun x hx => hlt x (List.mem_append_right _ hx), rfl⟩
  | [], _ :: _, _, _, _, h, _ => h.elim
  | [], [], _ :: _, _, _, h, _ => h.elim
  | _ :: _, [], _, _, _, h, _ => h.elim
  | _ :: _, _ :: _, [], _, _, h, _ => h.elim

/-- What a law's row asks behind the call. -/
theorem law_post {f : Func} {s : ChangeSpec} {W W' : World} {args : Array Value} {ds : List (DataW H)} {before : List MemPlace} {tb : TypeId}
    (hW : DataW.Whole enc P f.params.toList s.vars false W args.toList ds [] before) (hv : s.vars = [])
    (hl : laidOutB P = true) (hr : (f.params.toList.all fun t => P.readableRec t && decide (t < P.types.size)) = true)
    (hres : f.resultTypes = #[tb]) (hbool : P.underlying tb = some .bool)
    (hfn : s.fn H (ds ++ []) = { results := [.lit (.bool true)], args := ds }) (hb : Below W.heap.size W W') :
    s.post enc P f false true false false W args (.bool true) W' := by
  have hlt : ∀ p ∈ before, p.block < W.heap.size := fun p hp => hW.lt p hp
  have hW2 := hW
  obtain ⟨p, q, hA, hV, hpq, _, _⟩ := hW2
  rw [hv] at hV
  obtain ⟨_, rfl⟩ := trodVars_none hV
  rw [List.append_nil] at hpq
  subst hpq
  refine ⟨ds, [], _, [], before, [], hW, ?_, ?_, ?_, World.keptBut_mono (fun p hp => ⟨hp, Or.inr (Or.inl hp)⟩) (hb.frame (· ∈ before)), fun h => by cases h⟩
  · rw [hres, hfn]
    exact trodAll_mk1 (shut_bool hbool _)
  · rw [hfn]
    exact trodAll_below hl hb hr hA hlt
  · rw [hv, hfn]
    rfl

/-- An argument that is a slice of words. -/
theorem open_words {W : World} {base : Nat} {t e : TypeId} {v : Value} {d : DataW H} {ps : List MemPlace} (ht : P.underlying t = some (.slice e)) (he : P.underlying e = some (.int .u64)) (hc : P.cellsOf e = 1)
    (hok : Value.okWide P W .any base t v) (h : DataW.Trod enc P W 0 (fun _ => true) true t v d ps) : ∃ A c l, v = .slice A (List.length l) c ∧ Row W A l ∧ Wd l ∧ l.length ≤ 9223372036854775807 := by
  obtain ⟨a0, len, cap, rfl⟩ := okWide_slice ht hok
  obtain ⟨fuel, hf⟩ := h
  rcases open_ints ht he hc hf with ⟨hcs, _⟩ | ⟨a, len', cap', zs, hcs, _, hl, hm, hz, _, hcell, hwz⟩
  · simp [Value.cells] at hcs
    obtain ⟨rfl, rfl, rfl⟩ := hcs
    exact ⟨none, 0, [], rfl, Row.nil _ _, Wd.nil, by simp⟩
  · simp [Value.cells] at hcs
    obtain ⟨rfl, rfl, rfl⟩ := hcs
    simp only [if_true] at hz
    have hlen : ((zs.take len).map Int.toNat).length = len := by simp; omega
    have hget : ∀ k, k < len → ((((zs.take len).map Int.toNat).getD k 0 : Nat) : Int) = zs.getD k 0 := by
      intro k hk
      have hk2 : k < zs.length := by omega
      have h0 := (bounds_u64 (hwz zs[k] (List.getElem_mem hk2))).1
      simp [List.getD_eq_getElem?_getD, List.getElem?_take_of_lt hk, List.getElem?_eq_getElem hk2]
      omega
    refine ⟨some a, cap, (zs.take len).map Int.toNat, by rw [hlen], fun h0 => ⟨a, rfl, ?_, fun k hk => ?_⟩, fun k => ?_, by rw [hlen]; unfold maxLen at hm; omega⟩
    · rw [hlen] at h0
      have hc0 := hcell 0 (by omega)
      rcases Nat.lt_or_ge a.block W.heap.size with h1 | h1
      · exact h1
      · exfalso
        have : W.heap[(a.add 0).block]? = none := by rw [add_block]; exact Array.getElem?_eq_none h1
        simp [World.cell?, this] at hc0
    · rw [hlen] at hk
      rw [hcell k (by omega), hget k hk]
    · by_cases hk : k < len
      · have := hget k hk
        have hk2 : k < zs.length := by omega
        have h1 := (bounds_u64 (hwz zs[k] (List.getElem_mem hk2))).2
        rw [List.getD_eq_getElem?_getD (l := zs), List.getElem?_eq_getElem hk2, Option.getD_some] at this
        omega
      · rw [List.getD_eq_getElem?_getD, List.getElem?_eq_none (by rw [hlen]; omega)]; decide
/-- An argument that is a slice of words, with its capacity. -/
theorem open_wordsC {W : World} {base : Nat} {t e : TypeId} {v : Value} {d : DataW H} {ps : List MemPlace} (ht : P.underlying t = some (.slice e)) (he : P.underlying e = some (.int .u64)) (hc : P.cellsOf e = 1)
    (hok : Value.okWide P W .any base t v) (h : DataW.Trod enc P W 0 (fun _ => true) true t v d ps) : ∃ A c l, v = .slice A (List.length l) c ∧ Row W A l ∧ Wd l ∧ l.length ≤ 9223372036854775807 ∧ l.length ≤ c := by
  obtain ⟨a0, len, cap, rfl⟩ := okWide_slice ht hok
  obtain ⟨fuel, hf⟩ := h
  rcases open_ints ht he hc hf with ⟨hcs, _⟩ | ⟨a, len', cap', zs, hcs, _, hl, hm, hz, _, hcell, hwz⟩
  · simp [Value.cells] at hcs
    obtain ⟨rfl, rfl, rfl⟩ := hcs
    exact ⟨none, 0, [], rfl, Row.nil _ _, Wd.nil, by simp, by simp⟩
  · simp [Value.cells] at hcs
    obtain ⟨rfl, rfl, rfl⟩ := hcs
    simp only [if_true] at hz
    have hlen : ((zs.take len).map Int.toNat).length = len := by simp; omega
    have hget : ∀ k, k < len → ((((zs.take len).map Int.toNat).getD k 0 : Nat) : Int) = zs.getD k 0 := by
      intro k hk
      have hk2 : k < zs.length := by omega
      have h0 := (bounds_u64 (hwz zs[k] (List.getElem_mem hk2))).1
      simp [List.getD_eq_getElem?_getD, List.getElem?_take_of_lt hk, List.getElem?_eq_getElem hk2]
      omega
    refine ⟨some a, cap, (zs.take len).map Int.toNat, by rw [hlen], fun h0 => ⟨a, rfl, ?_, fun k hk => ?_⟩, fun k => ?_, by rw [hlen]; unfold maxLen at hm; omega, by rw [hlen]; exact hl⟩
    · rw [hlen] at h0
      have hc0 := hcell 0 (by omega)
      rcases Nat.lt_or_ge a.block W.heap.size with h1 | h1
      · exact h1
      · exfalso
        have : W.heap[(a.add 0).block]? = none := by rw [add_block]; exact Array.getElem?_eq_none h1
        simp [World.cell?, this] at hc0
    · rw [hlen] at hk
      rw [hcell k (by omega), hget k hk]
    · by_cases hk : k < len
      · have := hget k hk
        have hk2 : k < zs.length := by omega
        have h1 := (bounds_u64 (hwz zs[k] (List.getElem_mem hk2))).2
        rw [List.getD_eq_getElem?_getD (l := zs), List.getElem?_eq_getElem hk2, Option.getD_some] at this
        omega
      · rw [List.getD_eq_getElem?_getD, List.getElem?_eq_none (by rw [hlen]; omega)]; decide
end
end Go.Proofs.Ythlodfahajaneaa
