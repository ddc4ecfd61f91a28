/- The document's own Flush. -/
import Derived.Test.YtghppmgieljgiaaRef4
namespace Go.Proofs.Ytghppmgieljgiaa
open Go.RowKit
section
variable {w wr : World} {g gk ck cp : Nat} {A : Option Addr} {K : List Nat} {L : List Pn} {F : Nat → Prop} {line : Int} {k : Nat}
/-- Where its flush stands behind k stores. -/
structure RFl (w wr : World) (A : Option Addr) (cp : Nat) (L : List Pn) (line : Int) (k : Nat) : Prop where
  hp : ∃ M, PMC wr A cp M ∧ M.length = L.length ∧ M.take k = flushL line (L.take k) ∧ M.drop k = L.drop k
  only : Only (fun i => ∃ ad, A = some ad ∧ i = ad.block) w wr
/-- The blocks of the row. -/
def F_at (A : Option Addr) (i : Nat) : Prop := ∃ ad, A = some ad ∧ i = ad.block
theorem set_same {l : List Value} {i : Nat} {v : Value} (h : l[i]? = some v) : l.set i v = l := by
  apply List.ext_getElem?
  intro j
  by_cases hj : i = j
  · subst hj
    rw [List.getElem?_set_self (List.getElem?_eq_some_iff.1 h).1, h]
  · rw [List.getElem?_set_ne hj]
theorem RFl.step {gp : Nat} (h : RFl w wr (some ⟨gp, 0, none⟩) cp L line k) (hk : k < L.length) {M : List Pn} (hM : M.length = L.length) (hM1 : M.take k = flushL line (L.take k)) (hM2 : M.drop k = L.drop k)
    {cur : Array Value} (hg : wr.heap[gp]? = some (.cells cur 61 (0, 0))) (hcs : cp * 3 ≤ cur.size) (hcur : cur.toList.take (M.length * 3) = pv M) (p : Pn) (hp : L.getD k p0 = p) (b : Bool) (hb : b = (flushP line p).fl) (o : Obj) :
    RFl w ((((wr.setCell ⟨gp, k * 3, none⟩ (.int .i64 (p.pos : Nat))).setCell ⟨gp, k * 3 + 1, none⟩ (.int .u64 (p.word : Nat))).setCell ⟨gp, k * 3 + 2, none⟩ (.bool b)).alloc o).drew (some ⟨gp, 0, none⟩) cp L line (k + 1) := by
  have hmk : M.getD k p0 = p := (drop_getD hM2 hk).trans hp
  obtain ⟨e0, e1, e2⟩ := pv_get M k (by omega)
  rw [hmk] at e0 e1
  have h1 := heap_setCell_same wr gp (k * 3) cur 61 (.int .i64 (p.pos : Nat)) hg
  have h2 := heap_setCell_same _ gp (k * 3 + 1) _ 61 (.int .u64 (p.word : Nat)) h1
  have h3 := heap_setCell_same _ gp (k * 3 + 2) _ 61 (.bool b) h2
  have h4 := (Below.heap_alloc _ o gp (lt_of_cells h3)).trans h3
  have n0 : ∀ j, F_at (some ⟨gp, 0, none⟩) (⟨gp, j, none⟩ : Addr).block := fun j => ⟨_, rfl, rfl⟩
  refine ⟨⟨M.set k (flushP line p), .inr ⟨gp, _, rfl, h4, by simpa using hcs, ?_⟩, by rw [List.length_set]; exact hM, ?_, ?_⟩, ?_⟩
  · have e := pv_setfl M k b (by omega)
    rw [hmk] at e
    rw [List.length_set, Array.toList_setIfInBounds, Array.toList_setIfInBounds, Array.toList_setIfInBounds, List.take_set, List.take_set, List.take_set, hcur, set_same e0, set_same e1, e, hb]
    rfl
  · rw [take_succ_getD _ p0 k (by rw [List.length_set]; omega), List.take_set_of_le (by omega), hM1, take_succ_getD L p0 k hk]
    unfold flushL
    rw [List.map_append, hp]
    congr 1
    simp [List.getD_eq_getElem?_getD, show k < M.length by omega]
  · rw [List.drop_set_of_lt (by omega), ← List.drop_drop, ← List.drop_drop, hM2]
  · exact ((Only.setCell (p := ⟨gp, k * 3 + 2, none⟩) (Only.setCell (p := ⟨gp, k * 3 + 1, none⟩) (Only.setCell (p := ⟨gp, k * 3, none⟩) h.only (.inl (n0 _)) _) (.inl (n0 _)) _) (.inl (n0 _)) _).alloc o).drew
theorem RFl.done (h0 : RDevC w g gk ck A cp K L) (h : RFl w wr A cp L line L.length) : RDevC wr g gk ck A cp K (flushL line L) := by
  obtain ⟨M, hM, hM0, hM1, _⟩ := h.hp
  rw [List.take_length, ← hM0, List.take_length] at hM1
  subst hM1
  refine ⟨?_, ?_, ?_, h0.kc⟩
  · rw [flushL_length]
    exact (h.only.block g (lt_of_cells h0.hg) fun ⟨ad, e, hi⟩ => by subst e; exact h0.gp_ne.1 hi).trans h0.hg
  · obtain ⟨c, hc, ht⟩ := h0.hk
    exact ⟨c, (h.only.block gk h0.hk.lt fun ⟨ad, e, hi⟩ => by subst e; exact h0.gp_ne.2 hi).trans hc, ht⟩
  · refine ⟨pv_length _, by rw [flushL_length]; exact h0.pc, h0.pm, ?_⟩
    rcases hM with h1 | ⟨gp, cur, h1, h2, h3, h4⟩
    · exact .inl h1
    · exact .inr ⟨gp, cur, h1, h2, h3, h4⟩
theorem rflush_calls (hD : RDev w g F K L) (hpos : ∀ p ∈ L, p.pos < K.length) (hm : K.length ≤ 1099511627776) (hL : L.length ≤ 1099511627776) (a : Nat) (_ : a ≤ 1099511627776) :
    Calls Try.prog 17 #[.pointer (some ⟨g, 0, none⟩), .int .i64 (a : Nat)] w fun e w' => e = .returned (.tuple #[]) ∧ RTurn w g F K (flushL a L) w' := by
  obtain ⟨gk, ck, A, cp, h, f1, f2, f4, f5⟩ := hD
  have HP := Lib.hid hpos
  clear hpos
  go_enter Try.func17, Try.ntmps17
  go_wp2
  go_loopw [4] (fun i wr => ∃ k : Nat, i = .int .i64 k ∧ k ≤ L.length ∧ RFl w wr A cp L a k) (fun i _ => L.length - (intOf i).toNat)
  case atStart => exact ⟨0, rfl, Nat.zero_le _, ⟨L, pmc_of_own h.hp, rfl, rfl, rfl⟩, Only.refl _ _⟩
  case round =>
    obtain ⟨k, rfl, hk, hI⟩ := hrel
    have hgw : wr.heap[g]? = w.heap[g]? := hI.only.block g (lt_of_cells h.hg) fun ⟨ad, e, hi⟩ => by subst e; exact h.gp_ne.1 hi
    have y1 := cell_of_row wr g 1 _ _ (0, 0) (hgw.trans h.hg)
    have hgl : g < wr.heap.size := by have := hI.only.size; have := lt_of_cells h.hg; omega
    by_cases hlt : k < L.length
    · obtain ⟨M, hPM, hM, hM1, hM2⟩ := hI.hp
      have hpc := h.pc
      rcases hPM with ⟨_, h0⟩ | ⟨gp, cur, rfl, hgp, hcs, hcur⟩
      · omega
      · have hmk : M.getD k p0 = L.getD k p0 := drop_getD hM2 hlt
        have hpk := HP.out (L.getD k p0) (by rw [getD_of_lt _ _ _ hlt]; exact List.getElem_mem _)
        obtain ⟨e0, e1, e2⟩ := pv_get M k (by omega)
        rw [hmk] at e0 e1 e2
        have HG := Lib.hid hgp
        have hgpl := lt_of_cells hgp
        have x0 := cell_of_row wr gp (k * 3) _ _ (0, 0) hgp
        have x1 := cell_of_row wr gp (k * 3 + 1) _ _ (0, 0) hgp
        have x2 := cell_of_row wr gp (k * 3 + 2) _ _ (0, 0) hgp
        have z0 := frozen_of_row wr gp (k * 3) _ _ hgp
        have z1 := frozen_of_row wr gp (k * 3 + 1) _ _ hgp
        have z2 := frozen_of_row wr gp (k * 3 + 2) _ _ hgp
        have at_ : ∀ j u, j < M.length * 3 → (pv M)[j]? = some u → cur[j]? = some u := fun j u hj hu => by
          rw [← hcur, List.getElem?_take_of_lt hj, Array.getElem?_toList] at hu; exact hu
        rw [at_ _ _ (by omega) e0] at x0
        rw [at_ _ _ (by omega) e1] at x1
        rw [at_ _ _ (by omega) e2] at x2
        clear e0 e1 e2 at_
        have HM := Lib.hid hM
        have HM1 := Lib.hid hM1
        have HM2 := Lib.hid hM2
        have HC := Lib.hid hcur
        clear hM hM1 hM2 hcur hgp hmk hgw hpc
        generalize hp : L.getD k p0 = p at *
        have HPP := Lib.hid hp
        clear hp
        have hst := fun b hb o => Lib.hid (hI.step hlt HM.out HM1.out HM2.out HG.out hcs HC.out p HPP.out b hb o)
        have HST := Lib.hid hst
        have hfp : (flushP (a : Nat) p).fl = (p.fl || decide (((p.pos / 8 : Nat) : Int) = (a : Nat))) := rfl
        rw [hfp] at HST
        clear hst hfp
        cases hfl : p.fl
        · rw [hfl] at x2 HST
          clear hfl
          by_cases hq : p.pos / 8 = a
          · have hst := HST.out true (by rw [hq]; simp)
            have hq1 : ((p.pos : Int) / 8 == (a : Int)) = true := by rw [beq_iff_eq]; omega
            have HQ := Lib.hid hq
            have HH := Lib.hid hst
            clear HST hq hst
            go_wp2
            go_region
            go_wp2
            go_roundw
            case rel => exact ⟨k + 1, by go_num, by omega, (HH.out _).out⟩
            case measure => simp [intOf]; omega
          · have hst := HST.out false (by rw [Bool.false_or]; exact (decide_eq_false (by omega)).symm)
            have hq1 : ((p.pos : Int) / 8 == (a : Int)) = false := by rw [beq_eq_false_iff_ne]; omega
            have HQ := Lib.hid hq
            have HH := Lib.hid hst
            clear HST hq hst
            go_wp2
            go_region
            go_wp2
            go_roundw
            case rel => exact ⟨k + 1, by go_num, by omega, (HH.out _).out⟩
            case measure => simp [intOf]; omega
        · rw [hfl] at x2 HST
          clear hfl
          have hst := HST.out true (by simp)
          have HH := Lib.hid hst
          clear HST hst
          go_wp2
          go_region
          go_wp2
          go_roundw
          case rel => exact ⟨k + 1, by go_num, by omega, (HH.out _).out⟩
          case measure => simp [intOf]; omega
    · obtain rfl : k = L.length := by omega
      have hd := hI.done h
      have ho : Only F w wr := Only.trans (Only.refl F w) hI.only fun i ⟨ad, e, hi⟩ => .inl (by rw [hi]; exact f4 ad e)
      go_wp2
      go_end0
      exact ⟨rfl, RTurn.mk hd ho f1 f2 f4 fun i hi => ⟨.inl hi, Nat.lt_of_lt_of_le (f5 i hi) ho.size⟩⟩
end
end Go.Proofs.Ytghppmgieljgiaa
