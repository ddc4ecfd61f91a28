/- Flush. -/
import Derived.Test.YtghppmgieljgiaaMed6
namespace Go.Proofs.Ytghppmgieljgiaa
open Go.RowKit
theorem pv_setfl (M : List Pn) : ∀ (k : Nat) (b : Bool), k < M.length → (pv M).set (k * 3 + 2) (.bool b) = pv (M.set k ⟨(M.getD k p0).pos, (M.getD k p0).word, b⟩) := by
  induction M with
  | nil => intro k b hk; simp at hk
  | cons p r ih =>
    intro k b hk
    cases k with
    | zero => rfl
    | succ k =>
      rw [List.set_cons_succ, show (k + 1) * 3 + 2 = (k * 3 + 2) + 1 + 1 + 1 by omega]
      simp only [pv, List.set_cons_succ]
      rw [ih k b (by simpa using hk)]
      rfl
/-- The row that waits, with room for c. -/
def PMC (w : World) (A : Option Addr) (c : Nat) (M : List Pn) : Prop :=
  (A = none ∧ c = 0) ∨ ∃ gp cur, A = some ⟨gp, 0, none⟩ ∧ w.heap[gp]? = some (.cells cur 61 (0, 0)) ∧ c * 3 ≤ cur.size ∧ cur.toList.take (M.length * 3) = pv M
theorem pmc_of_own {w : World} {A : Option Addr} {cp : Nat} {L : List Pn} (h : OwnR w 61 3 A L.length cp (pv L)) : PMC w A cp L := by
  obtain ⟨_, _, _, h2⟩ := h
  rcases h2 with h2 | ⟨g, cur, h2, h3, h4, h5⟩
  · exact .inl h2
  · exact .inr ⟨g, cur, h2, h3, h4, h5⟩
/-- Where a flush stands behind k stores. -/
structure FlI (w wr : World) (g gk ck gs cs : Nat) (A : Option Addr) (cp : Nat) (K S : List Nat) (L : List Pn) (line : Int) (k : Nat) : Prop where
  hp : ∃ M, PMC wr A cp M ∧ M.length = L.length ∧ M.take k = flushL line (L.take k) ∧ M.drop k = L.drop k
  only : Only (fun i => ∃ ad, A = some ad ∧ i = ad.block) w wr
section
variable {w wr : World} {g gk ck gs cs cp : Nat} {A : Option Addr} {K S : List Nat} {L : List Pn} {line : Int} {k : Nat}
theorem FlI.start (h : DevC w g gk ck gs cs A cp K S L) : FlI w w g gk ck gs cs A cp K S L line 0 := ⟨⟨L, pmc_of_own h.hp, rfl, rfl, rfl⟩, Only.refl _ _⟩
theorem FlI.cells (h0 : DevC w g gk ck gs cs A cp K S L) (h : FlI w wr g gk ck gs cs A cp K S L line k) : wr.heap[g]? = w.heap[g]? ∧ wr.heap[gk]? = w.heap[gk]? ∧ wr.heap[gs]? = w.heap[gs]? :=
  ⟨h.only.block g (lt_of_cells h0.hg) fun ⟨ad, e, hi⟩ => by subst e; exact h0.gp_ne.1 hi,
   h.only.block gk h0.hk.lt fun ⟨ad, e, hi⟩ => by subst e; exact h0.gp_ne.2.1 hi,
   h.only.block gs h0.hs.lt fun ⟨ad, e, hi⟩ => by subst e; exact h0.gp_ne.2.2 hi⟩
theorem FlI.step {gp : Nat} (h : FlI w wr g gk ck gs cs (some ⟨gp, 0, none⟩) cp K S L line k) (hk : k < L.length) {M : List Pn} (hM : M.length = L.length) (hM1 : M.take k = flushL line (L.take k)) (hM2 : M.drop k = L.drop k)
    {cur : Array Value} (hg : wr.heap[gp]? = some (.cells cur 61 (0, 0))) (hcs : cp * 3 ≤ cur.size) (hcur : cur.toList.take (M.length * 3) = pv M) (b : Bool) (hb : b = (flushP line (L.getD k p0)).fl) :
    FlI w (wr.setCell ⟨gp, k * 3 + 2, none⟩ (.bool b)) g gk ck gs cs (some ⟨gp, 0, none⟩) cp K S L line (k + 1) := by
  have hmk : M.getD k p0 = L.getD k p0 := drop_getD hM2 hk
  refine ⟨⟨M.set k (flushP line (L.getD k p0)), .inr ⟨gp, _, rfl, heap_setCell_same _ _ _ _ _ _ hg, by simpa using hcs, ?_⟩, by rw [List.length_set]; exact hM, ?_, ?_⟩, Only.setCell (p := ⟨gp, k * 3 + 2, none⟩) h.only (.inl ⟨⟨gp, 0, none⟩, rfl, rfl⟩) _⟩
  · have e := pv_setfl M k b (by omega)
    rw [hmk] at e
    rw [List.length_set, Array.toList_setIfInBounds, List.take_set, hcur, e, hb]
    rfl
  · rw [take_succ_getD _ p0 k (by rw [List.length_set]; omega), List.take_set_of_le (by omega), hM1, take_succ_getD L p0 k hk]
    unfold flushL
    rw [List.map_append]
    congr 1
    simp [List.getD_eq_getElem?_getD, show k < M.length by omega]
  · rw [List.drop_set_of_lt (by omega), ← List.drop_drop, ← List.drop_drop, hM2]
theorem FlI.done (h0 : DevC w g gk ck gs cs A cp K S L) (h : FlI w wr g gk ck gs cs A cp K S L line L.length) : DevC wr g gk ck gs cs A cp K S (flushL line L) := by
  obtain ⟨e1, e2, e3⟩ := h.cells h0
  obtain ⟨M, hM, hM0, hM1, _⟩ := h.hp
  rw [List.take_length, ← hM0, List.take_length] at hM1
  subst hM1
  refine ⟨?_, ?_, ?_, ?_, h0.ne, h0.kc, h0.sc⟩
  · rw [flushL_length]
    exact e1.trans h0.hg
  · obtain ⟨c, hc, ht⟩ := h0.hk
    exact ⟨c, e2.trans hc, ht⟩
  · obtain ⟨c, hc, ht⟩ := h0.hs
    exact ⟨c, e3.trans hc, ht⟩
  · refine ⟨pv_length _, by rw [flushL_length]; exact h0.pc, h0.pm, ?_⟩
    rcases hM with h1 | ⟨gp, cur, h1, h2, h3, h4⟩
    · exact .inl h1
    · exact .inr ⟨gp, cur, h1, h2, h3, h4⟩
theorem flush_nil (a : Int) (w : World) : Calls Try.prog 16 #[.pointer none, .int .i64 a] w fun e w' => e = .returned (.int .i64 1) ∧ w = w' := by
  go_enter Try.func16, Try.ntmps16
  go_wp2
  go_ret
  exact ⟨rfl, rfl⟩
theorem flush_out (h : DevC w g gk ck gs cs A cp K S L) (a : Int) (n : Nat) (hn : K.length = 8 * n) (hm : n ≤ 4096) (ha : ¬ (0 ≤ a ∧ a < n)) :
    Calls Try.prog 16 #[.pointer (some ⟨g, 0, none⟩), .int .i64 a] w fun e w' => e = .returned (.int .i64 2) ∧ w = w' := by
  by_cases h0 : a < 0
  · clear ha
    go_enter Try.func16, Try.ntmps16
    go_wp2
    go_ret
    exact ⟨rfl, rfl⟩
  · have h1 : (n : Int) ≤ a := by omega
    have h2 : 0 ≤ a := by omega
    have HN := Lib.hid hn
    clear ha hn
    go_enter Try.func16, Try.ntmps16
    go_wp2_with (go_at_call 12; refine (lines_calls h n HN.out hm).mono ?_; rintro e w' ⟨rfl, rfl⟩)
    go_ret
    exact ⟨rfl, rfl⟩
theorem flush_in {F : Nat → Prop} (hD : Dev w g F K S L) (a n : Nat) (hn : K.length = 8 * n) (hm : n ≤ 4096) (ha : a < n) (hL : L.length ≤ 1099511627776) (hpos : ∀ p ∈ L, p.pos < K.length) :
    Calls Try.prog 16 #[.pointer (some ⟨g, 0, none⟩), .int .i64 (a : Nat)] w fun e w' => e = .returned (.int .i64 0) ∧ Turn w g F K S (flushL a L) w' := by
  obtain ⟨gk, ck, gs, cs, A, cp, h, f1, f2, f3, f4, f5⟩ := hD
  have HN := Lib.hid hn
  have c2 := h.c2
  have HPS := Lib.hid hpos
  clear hn hpos
  go_enter Try.func16, Try.ntmps16
  go_wp2_with (go_at_call 12; refine (lines_calls h n HN.out hm).mono ?_; rintro e w' ⟨rfl, rfl⟩)
  go_loopw [22] (fun i wr => ∃ k : Nat, i = .int .i64 k ∧ k ≤ L.length ∧ FlI w wr g gk ck gs cs A cp K S L a k) (fun i _ => L.length - (intOf i).toNat)
  case atStart => exact ⟨0, rfl, Nat.zero_le _, FlI.start h⟩
  case round =>
    obtain ⟨k, rfl, hk, hI⟩ := hrel
    by_cases hlt : k < L.length
    · obtain ⟨M, hPM, hM, hM1, hM2⟩ := hI.hp
      have hpc := h.pc
      rcases hPM with ⟨_, h0⟩ | ⟨gp, cur, rfl, hgp, hcs, hcur⟩
      · omega
      · have hmk : M.getD k p0 = L.getD k p0 := drop_getD hM2 hlt
        obtain ⟨e0, e1, e2⟩ := pv_get M k (by omega)
        rw [hmk] at e0 e1 e2
        have hps : (L.getD k p0).pos < 32768 := by
          have := HPS.out (L.getD k p0) (by rw [getD_of_lt _ _ _ hlt]; exact List.getElem_mem _)
          have := HN.out
          omega
        have HG := Lib.hid hgp
        have x0 := cell_of_row wr gp (k * 3) _ _ (0, 0) hgp
        have x2 := cell_of_row wr gp (k * 3 + 2) _ _ (0, 0) hgp
        have at_ : ∀ j u, j < M.length * 3 → (pv M)[j]? = some u → cur[j]? = some u := fun j u hj hu => by
          rw [← hcur, List.getElem?_take_of_lt hj, Array.getElem?_toList] at hu; exact hu
        rw [at_ _ _ (by omega) e0] at x0
        rw [at_ _ _ (by omega) e2] at x2
        have x3 := frozen_of_row wr gp (k * 3 + 2) _ _ hgp
        have y2 := cell_of_row wr g 2 _ _ (0, 0) ((hI.cells h).1.trans h.hg)
        have hst := fun b hb => Lib.hid (hI.step hlt hM hM1 hM2 hgp hcs hcur b hb)
        have HST := Lib.hid hst
        have hfp : (flushP (a : Nat) (L.getD k p0)).fl = ((L.getD k p0).fl || decide ((((L.getD k p0).pos / 8 : Nat) : Int) = (a : Nat))) := rfl
        rw [hfp] at HST
        clear e0 e1 e2 hM2 hM1 hmk at_ hgp hcur hM hst hfp c2 hpc
        generalize L.getD k p0 = p at *
        cases hfl : p.fl
        · rw [hfl] at x2 HST
          clear hfl
          by_cases hq : p.pos / 8 = a
          · have hst := (HST.out true (by rw [hq]; simp)).out
            have hq1 : ((p.pos : Int) / 8 == (a : Int)) = true := by rw [beq_iff_eq]; omega
            have HQ := Lib.hid hq
            clear HST hq
            go_wp2
            go_roundw
            case rel => exact ⟨k + 1, by go_num, by omega, hst⟩
            case measure => simp [intOf]; omega
          · have hst := (HST.out false (by rw [Bool.false_or]; exact (decide_eq_false (by omega)).symm)).out
            have hq1 : ((p.pos : Int) / 8 == (a : Int)) = false := by rw [beq_eq_false_iff_ne]; omega
            have HQ := Lib.hid hq
            clear HST hq
            go_wp2
            go_roundw
            case rel => exact ⟨k + 1, by go_num, by omega, hst⟩
            case measure => simp [intOf]; omega
        · rw [hfl] at x2 HST
          clear hfl
          have hst := (HST.out true (by simp)).out
          clear HST
          go_wp2
          go_roundw
          case rel => exact ⟨k + 1, by go_num, by omega, hst⟩
          case measure => simp [intOf]; omega
    · obtain rfl : k = L.length := by omega
      have hd := hI.done h
      have ho : Only F w wr := Only.trans (Only.refl F w) hI.only fun i ⟨ad, e, hi⟩ => .inl (by rw [hi]; exact f4 ad e)
      clear c2
      go_wp2
      go_ret
      exact ⟨rfl, Turn.mk hd ho f1 f2 f3 f4 fun i hi => ⟨.inl hi, Nat.lt_of_lt_of_le (f5 i hi) ho.size⟩⟩
end
end Go.Proofs.Ytghppmgieljgiaa
