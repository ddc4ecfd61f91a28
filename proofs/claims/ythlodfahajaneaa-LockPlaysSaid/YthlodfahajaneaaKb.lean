/- The lowest lock in whose queue a process stands at a place that fits; for which it waits; what bars it. -/
import Derived.Test.YthlodfahajaneaaKa
import Derived.Deep.LoopGhost
set_option linter.unusedSimpArgs false
set_option linter.unusedVariables false
namespace Go.Proofs.Ythlodfahajaneaa
open Go Go.RowKit LockMath
/-- It stands there at a place that fits. -/
def atB (l : List Int) (p : Int) (f : Nat → Bool) : Bool := (List.range l.length).any fun k => (l.getD k 0 == p) && f k
def seekF (Q : List (List Int)) (p : Int) (f : Nat → Nat → Bool) : Option Nat := (List.range Q.length).find? fun i => atB (qu Q i) p (f i)
theorem at_hit {l : List Int} {p : Int} {f : Nat → Bool} {k : Nat} (hk : k < l.length) (h : ((l.getD k 0 == p) && f k) = true) : atB l p f = true := by
  unfold atB
  rw [List.any_eq_true]
  exact ⟨k, List.mem_range.2 hk, h⟩
theorem at_miss {l : List Int} {p : Int} {f : Nat → Bool} (h : ∀ k, k < l.length → ((l.getD k 0 == p) && f k) = false) : atB l p f = false := by
  unfold atB
  rw [List.any_eq_false]
  intro k hk
  rw [h k (List.mem_range.1 hk)]
  decide
theorem at_iff {l : List Int} {p : Int} {f : Nat → Bool} : atB l p f = true ↔ ∃ k, k < l.length ∧ l.getD k 0 = p ∧ f k = true := by
  unfold atB
  rw [List.any_eq_true]
  constructor
  · rintro ⟨k, h1, h2⟩
    rw [Bool.and_eq_true, beq_iff_eq] at h2
    exact ⟨k, List.mem_range.1 h1, h2⟩
  · rintro ⟨k, h1, h2, h3⟩
    exact ⟨k, List.mem_range.2 h1, by rw [Bool.and_eq_true, beq_iff_eq]; exact ⟨h2, h3⟩⟩
theorem find_hit {n k : Nat} {g : Nat → Bool} (hk : k < n) (h : g k = true) (hb : ∀ j, j < k → g j = false) : (List.range n).find? g = some k := by
  rw [List.find?_range_eq_some]
  exact ⟨h, List.mem_range.2 hk, fun j hj => by rw [hb j hj]; rfl⟩
theorem find_miss {n : Nat} {g : Nat → Bool} (hb : ∀ j, j < n → g j = false) : (List.range n).find? g = none := by
  rw [List.find?_eq_none]
  intro j hj
  rw [hb j (List.mem_range.1 hj)]
  decide
theorem seek_iff {Q : List (List Int)} {p : Int} {f : Nat → Nat → Bool} : (seekF Q p f).isSome = true ↔ ∃ i k, i < Q.length ∧ k < (qu Q i).length ∧ (qu Q i).getD k 0 = p ∧ f i k = true := by
  unfold seekF
  rw [List.find?_isSome]
  constructor
  · rintro ⟨i, h1, h2⟩
    obtain ⟨k, h3⟩ := at_iff.1 h2
    exact ⟨i, k, List.mem_range.1 h1, h3⟩
  · rintro ⟨i, k, h1, h2⟩
    exact ⟨i, List.mem_range.2 h1, at_iff.2 ⟨k, h2⟩⟩
/-- Places. -/
theorem hold_at {Q : List (List Int)} {p : Int} {i : Nat} : Hold Q p i ↔ 0 < (qu Q i).length ∧ (qu Q i).getD 0 0 = p := by
  unfold Hold
  cases qu Q i with
  | nil => simp
  | cons a r => simp
theorem wait_at {Q : List (List Int)} {p : Int} {i : Nat} : Wait Q p i ↔ ∃ k, k < (qu Q i).length ∧ (qu Q i).getD k 0 = p ∧ 0 < k := by
  unfold Wait
  cases qu Q i with
  | nil => simp
  | cons a r =>
    rw [List.tail_cons]
    constructor
    · intro h
      obtain ⟨k, hk, e⟩ := List.getElem_of_mem h
      refine ⟨k + 1, by simpa using hk, ?_, by omega⟩
      rw [List.getD_cons_succ, List.getD_eq_getElem?_getD, List.getElem?_eq_getElem hk, Option.getD_some, e]
    · rintro ⟨k, h1, h2, h3⟩
      obtain ⟨j, rfl⟩ : ∃ j, k = j + 1 := ⟨k - 1, by omega⟩
      have hj : j < r.length := by simpa using h1
      rw [List.getD_cons_succ, List.getD_eq_getElem?_getD, List.getElem?_eq_getElem hj, Option.getD_some] at h2
      rw [← h2]
      exact List.getElem_mem hj
def waitF (_ k : Nat) : Bool := decide (0 < k)
theorem seek_waits (Q : List (List Int)) (p : Int) : seekF Q p waitF = waitsF Q p := by
  unfold seekF waitsF
  congr 1
  funext i
  rw [Bool.eq_iff_iff, at_iff, decide_eq_true_eq, wait_at]
  simp [waitF]
def barF (id i k : Nat) : Bool := if k = 0 then decide (id < i) else decide (i ≠ id)
theorem seek_bars {Q : List (List Int)} (hv : Inv Q) (p : Int) (id : Nat) : (seekF Q p (barF id)).isSome = (elseB Q p id || grB Q p id) := by
  rw [Bool.eq_iff_iff, seek_iff, Bool.or_eq_true, gr_iff]
  constructor
  · rintro ⟨i, k, h1, h2, h3, h4⟩
    unfold barF at h4
    by_cases hk : k = 0
    · rw [if_pos hk] at h4
      subst hk
      exact .inr ⟨i, hold_at.2 ⟨h2, h3⟩, of_decide_eq_true h4⟩
    · rw [if_neg hk] at h4
      refine .inl ?_
      have hw : Wait Q p i := wait_at.2 ⟨k, h2, h3, by omega⟩
      unfold elseB
      cases hc : waitsF Q p with
      | none => exact absurd hw (waits_none.1 hc i)
      | some j =>
        have := hv.one p i j hw (waits_some hc)
        subst this
        exact h4
  · rintro (h | ⟨j, h1, h2⟩)
    · unfold elseB at h
      cases hc : waitsF Q p with
      | none => rw [hc] at h; cases h
      | some j =>
        rw [hc] at h
        have hw := waits_some hc
        obtain ⟨k, h1, h2, h3⟩ := wait_at.1 hw
        refine ⟨j, k, hw.lt, h1, h2, ?_⟩
        unfold barF
        rw [if_neg (by omega)]
        exact h
    · obtain ⟨h3, h4⟩ := hold_at.1 h1
      refine ⟨j, 0, h1.lt, h3, h4, ?_⟩
      unfold barF
      rw [if_pos rfl]
      exact decide_eq_true h2
def twoN (o : Option Nat) : Value := .tuple #[.int .i64 ((o.getD 0 : Nat) : Int), .bool o.isSome]
set_option maxRecDepth 1000000 in
set_option maxHeartbeats 4000000 in
theorem seek_calls {w0 w : World} {T G : Nat} {As : List (Option Addr × Nat)} {n : Int} {Q : List (List Int)} (h : Tb w0 w T G As n Q) (p : Int) (fid : FuncId) (caps : Array Value) (f : Nat → Nat → Bool)
    (hcf : ∀ args W, (callFunc fid args).run Try.prog W = .ok (.enter fid args) W) (hf : ∀ i k : Nat, Calls Try.prog fid (#[.int .i64 (i : Int), .int .i64 (k : Int)] ++ caps) w fun e w' => e = .returned (.bool (f i k)) ∧ w = w') :
    Calls Try.prog 31 #[.pointer (some ⟨T, 0, none⟩), .int .i64 p, .func (.func fid) #[] caps] w fun e w' => e = .returned (twoN (seekF Q p f)) ∧ w = w' := by
  have HT := Lib.hid h
  have HF := Lib.hid hf
  have HCF := Lib.hid hcf
  have y1 := h.c1
  have hm := h.nm.l1
  obtain ⟨m, hM⟩ : ∃ m, Q.length = m := ⟨_, rfl⟩
  have HM := Lib.hid hM
  rw [hM] at y1 hm
  clear h hf hcf hM
  go_enter Try.func31, Try.ntmps31
  go_wp2_with (fail)
  go_step3
  go_wp2_with (fail)
  go_step3
  go_wp2_with (fail)
  go_loopg [8, 9, 19] m (fun g s8 s9 s19 wx => ∃ k : Nat, k + g = m ∧ s19 = .int .i64 k ∧ s8 = .int .i64 0 ∧ s9 = .bool false ∧ Hid (∀ j, j < k → atB (qu Q j) p (f j) = false) ∧ w = wx)
  case atStart => exact ⟨0, by omega, rfl, rfl, rfl, Lib.hid (fun j hj => absurd hj (Nat.not_lt_zero _)), rfl⟩
  case round =>
    obtain ⟨k, hkg, rfl, rfl, rfl, hM, rfl⟩ := hrel
    cases gk with
    | zero =>
      have hkm : k = m := by omega
      subst hkm
      have hS : Hid (seekF Q p f = none) := by
        show _ = _
        unfold seekF
        rw [HM.out]
        exact find_miss hM.out
      go_wp2_with (fail)
      rw [Exit.noGoto_ret]
      go_ret2
      rw [hS.out]
      exact ⟨rfl, rfl⟩
    | succ g =>
      have hkm : k < m := by omega
      have hkm2 : (k : Int) < (m : Int) := by omega
      have yq := HT.out.q.cell (i := k) (by rw [HM.out]; exact hkm)
      have hl16 := HT.out.nm.len k
      obtain ⟨l, hl⟩ : ∃ l, qu Q k = l := ⟨_, rfl⟩
      have HL := Lib.hid hl
      have hAT : Hid (∀ j, j < l.length → ∃ g, qA As k = some ⟨g, 0, none⟩ ∧ w.cell? ⟨g, j, none⟩ = some (.int .i64 (l.getD j 0))) := by
        have := fun j hj => HT.out.q.at (i := k) (k := j) (by rw [HM.out]; exact hkm) hj
        rw [hl] at this
        exact this
      rw [hl] at yq hl16
      clear hl
      obtain ⟨L, hL⟩ : ∃ L, l.length = L := ⟨_, rfl⟩
      have HLL := Lib.hid hL
      rw [hL] at yq hl16
      clear hL
      obtain ⟨A, hA⟩ : ∃ A, qA As k = A := ⟨_, rfl⟩
      have HA := Lib.hid hA
      rw [hA] at yq
      clear hA
      generalize qC As k = C at *
      go_wp2_with (fail)
      go_loopg [8, 9, 26] L (fun g2 s8 s9 s26 wx => ∃ j : Nat, j + g2 = L ∧ s26 = .int .i64 j ∧ s8 = .int .i64 0 ∧ s9 = .bool false ∧ Hid (∀ i, i < j → ((l.getD i 0 == p) && f k i) = false) ∧ w = wx)
      case atStart => exact ⟨0, by omega, rfl, rfl, rfl, Lib.hid (fun j hj => absurd hj (Nat.not_lt_zero _)), rfl⟩
      case round =>
        obtain ⟨j, hjg, rfl, rfl, rfl, hJ, rfl⟩ := hrel
        cases gk with
        | zero =>
          have hjL : j = L := by omega
          subst hjL
          have hM2 : Hid (∀ i, i < k + 1 → atB (qu Q i) p (f i) = false) := Lib.hid (fun i hi => by
            rcases Nat.lt_or_ge i k with h1 | h1
            · exact hM.out i h1
            · obtain rfl : i = k := by omega
              rw [HL.out]
              exact at_miss (by rw [HLL.out]; exact hJ.out))
          go_wp2_with (fail)
          go_roundg g
          case measure => omega
          case rel => exact ⟨k + 1, by omega, by go_num, rfl, rfl, hM2, rfl⟩
        | succ g2 =>
          have hjL : j < L := by omega
          have hjL2 : (j : Int) < (L : Int) := by omega
          obtain ⟨gb, hgb, yc⟩ := hAT.out j (by rw [HLL.out]; exact hjL)
          rw [HA.out] at hgb
          subst hgb
          obtain ⟨x, hx⟩ : ∃ x, l.getD j 0 = x := ⟨_, rfl⟩
          have HX := Lib.hid hx
          rw [hx] at yc
          clear hx
          obtain ⟨fb, hfb⟩ : ∃ fb, f k j = fb := ⟨_, rfl⟩
          have HFB := Lib.hid hfb
          have HFC := Lib.hid (HF.out k j)
          rw [hfb] at HFC
          clear hfb
          by_cases hxp : x = p
          · subst hxp
            cases fb with
            | true =>
              have hS : Hid (seekF Q x f = some k) := by
                show _ = _
                unfold seekF
                refine find_hit (by rw [HM.out]; exact hkm) ?_ hM.out
                rw [HL.out]
                exact at_hit (by rw [HLL.out]; exact hjL) (by rw [HX.out, HFB.out]; simp)
              go_wp2_with (fail)
              rw [HCF.out, Oper.upon_enter]
              refine HFC.out.mono ?_
              rintro e w' ⟨rfl, rfl⟩
              go_wp2_with (fail)
              rw [Exit.noGoto_ret]
              go_ret2
              rw [hS.out]
              exact ⟨rfl, rfl⟩
            | false =>
              have hJ2 : Hid (∀ i, i < j + 1 → ((l.getD i 0 == x) && f k i) = false) := Lib.hid (fun i hi => by
                rcases Nat.lt_or_ge i j with h1 | h1
                · exact hJ.out i h1
                · obtain rfl : i = j := by omega
                  rw [HFB.out, Bool.and_false])
              go_wp2_with (fail)
              rw [HCF.out, Oper.upon_enter]
              refine HFC.out.mono ?_
              rintro e w' ⟨rfl, rfl⟩
              go_wp2_with (fail)
              go_roundg g2
              case measure => omega
              case rel => exact ⟨j + 1, by omega, by go_num, rfl, rfl, hJ2, rfl⟩
          · have hxp2 : (x == p) = false := by simpa using hxp
            have hJ2 : Hid (∀ i, i < j + 1 → ((l.getD i 0 == p) && f k i) = false) := Lib.hid (fun i hi => by
              rcases Nat.lt_or_ge i j with h1 | h1
              · exact hJ.out i h1
              · obtain rfl : i = j := by omega
                rw [HX.out, hxp2, Bool.false_and])
            clear hxp
            go_wp2_with (fail)
            go_roundg g2
            case measure => omega
            case rel => exact ⟨j + 1, by omega, by go_num, rfl, rfl, hJ2, rfl⟩
end Go.Proofs.Ythlodfahajaneaa
