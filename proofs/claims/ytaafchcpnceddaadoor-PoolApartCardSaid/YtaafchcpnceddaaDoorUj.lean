/- PoolDrops: for every input the law returns true; nothing that was there has turned. -/
import Derived.Test.YtaafchcpnceddaaDoorUh
set_option linter.unusedSimpArgs false
set_option linter.unusedVariables false
namespace Go.Proofs.YtaafchcpnceddaaDoor
open Go.RowKit WordMath
section
variable {P : Program}
theorem run_icl (w : World) (t ty e : TypeId) (i : TypeInfo) (ht : P.underlying t = some (.slice e)) (hi : P.info? e = some i) (hz : i.zero = some (.int .i64 0)) (hsize : i.size = 1) (hby : i.bytes = 8)
    (A : Option Addr) (l : List Int) (c : Nat) (hr : Cel w A (iv l)) (hlen : l.length ≤ 17592186044416) :
    ∃ A' c' w', (Builtin.append_ #[t, t] ty #[.slice none 0 0, .slice A l.length c]).run P w = .ok (.slice A' l.length c') w' ∧ OwnR w' e 1 A' l.length c' (iv l) ∧ (∀ ad, A' = some ad → w.heap.size ≤ ad.block) ∧ Below w.heap.size w w' := by
  rcases A with _ | ad
  · have h0 : l = [] := by
      cases l with
      | nil => rfl
      | cons x r => obtain ⟨ad, h, _⟩ := hr (by simp [iv]); cases h
    subst h0
    refine ⟨none, 0, w, ?_, OwnR.nil _ _ _, (fun ad h => by cases h), Below.refl _ _⟩
    simp [Builtin.append_, run_underlying ht, sizeOf, typeInfo, hi, Builtin.lenOf, Builtin.firstCells]
  · have hcells : ∀ j u, (iv l)[j]? = some u → w.cell? (ad.add j) = some u := by
      intro j u hu
      have hj : j < l.length := by
        rcases Nat.lt_or_ge j l.length with h | h
        · exact h
        · rw [List.getElem?_eq_none (by rw [iv_length]; exact h)] at hu; cases hu
      obtain ⟨ad', h, _, hc⟩ := hr (by rw [iv_length]; omega)
      injection h with h
      subst h
      exact hc j u hu
    obtain ⟨v', w', hrun, h2, h3, _⟩ := run_append_own (P := P) w w.heap.size t ty e i (.int .i64 0) 1 8 ht hi hz hsize hby rfl (by decide) (.slice none 0 0) 0 [] (World.ownsRow_nil _ _ _ _) ad l.length c (iv l) (by rw [iv_length]; omega) hcells (iv_one l) (by unfold maxLen; omega) (by omega) (Nat.le_refl _)
    rw [List.nil_append, Nat.zero_add] at h2
    obtain ⟨A', c', rfl, ho, hf⟩ := OwnR.of_own h2
    exact ⟨A', c', w', hrun, ho, hf, (Below.refl _ _).grown h3 (Nat.le_refl _) (by simp [Value.ownBlock])⟩
/-- 'append([]int(nil), l...)'. -/
theorem wpList_icl {w : World} {ops : Array Oper} {rest : List Oper} {o : Oper} {a : Act} {Q : Exit → Act → World → Prop} (hgd : o.guard = none) (s x : Operand) (t : TypeId)
    (ho : o.op = .call { callee := .builtin .append, args := #[s, x], argTypes := #[t, t] })
    (e : TypeId) (i : TypeInfo) (ht : P.underlying t = some (.slice e)) (hi : P.info? e = some i) (hz : i.zero = some (.int .i64 0)) (hsize : i.size = 1) (hby : i.bytes = 8)
    (A : Option Addr) (l : List Int) (n c : Nat) (hn : l.length = n) (hs : a.eval s = .slice none 0 0) (hx : a.eval x = .slice A n c) (hr : Cel w A (iv l)) (hlen : l.length ≤ 17592186044416)
    (h : ∀ A' c' w', OwnR w' e 1 A' n c' (iv l) → (∀ ad, A' = some ad → w.heap.size ≤ ad.block) → Below w.heap.size w w' → wpList P ops Q rest (a.put o.dst (.slice A' n c')) w') : wpList P ops Q (o :: rest) a w :=
  wpList_plain hgd fun _ hK => by
    subst hn
    obtain ⟨A', c', w', hrun, h2, h3, h4⟩ := run_icl (P := P) w t o.type e i ht hi hz hsize hby A l c hr hlen
    unfold Oper.wp execOp
    simp only [ho, resolve, invoke, builtin, Sem.run_bind, Sem.run_pure, Result.andThen_ok, List.map_toArray, List.map_cons, List.map_nil, hs, hx, hrun]
    exact hK _ _ (h A' c' w' h2 h3 h4)
end
theorem Cel.blk {w : World} {A : Option Addr} {l : List Int} (h : Cel w A (iv l)) : ∀ ad, A = some ad → 0 < l.length → ad.block < w.heap.size := fun ad e h0 => by
  obtain ⟨ad', e', hl, _⟩ := h (by rw [iv_length]; exact h0)
  rw [e] at e'
  injection e' with e'
  rw [e']
  exact hl
theorem dropR_small (l : List Nat) (n : Int) (is : List Int) (h : l.length ≤ 65536) : (dropR l n is).length ≤ 140737488355328 := by
  unfold dropR
  split
  · rw [clrsL_len]; omega
  · simp
set_option maxRecDepth 100000 in
set_option maxHeartbeats 1000000 in
theorem drops_law (A : Option Addr) (l : List Nat) (c : Nat) (n : Int) (B : Option Addr) (is : List Int) (d : Nat) (w : World) (hn : -9223372036854775808 ≤ n) (hn2 : n ≤ 9223372036854775807) (hr : Row w A l) (hl : Wd l) (hll : l.length ≤ 9223372036854775807) (hi : Cel w B (iv is)) (hil : is.length ≤ 9223372036854775807) (hT : TabAt w) :
    Calls Tryd.prog 4 #[.slice A l.length c, .int .i64 n, .slice B is.length d] w fun e w' => e = .returned (.bool true) ∧ Below w.heap.size w w' := by
  have HT := Lib.hid hT
  clear hT
  by_cases h1 : 40 < l.length
  · go_enter Tryd.func4, Tryd.ntmps4
    go_wp2_with (first | (go_at_call 8; refine (large_calls A l c w hll).mono ?_; rintro e w' ⟨rfl, rfl⟩) | (go_at_call 9; refine (alive_calls _ HT.out).mono ?_; rintro e w' ⟨rfl, hb⟩))
    go_ret
    exact ⟨rfl, hb⟩
  have d1 : decide (40 < l.length) = false := decide_eq_false h1
  by_cases h2 : 200 < is.length
  · go_enter Tryd.func4, Tryd.ntmps4
    go_wp2_with (fail)
    have c1 := large_calls A l c w hll
    rw [d1] at c1
    refine c1.mono ?_
    clear c1
    rintro e w' ⟨rfl, rfl⟩
    go_wp2_with (fail)
    have c1 := alive_calls w HT.out
    refine c1.mono ?_
    clear c1
    rintro e w' ⟨rfl, hb⟩
    go_wp2_with (fail)
    go_ret
    exact ⟨rfl, hb⟩
  obtain ⟨i0, hi0, hz0, hs0, hb0⟩ := info_parts i64_info
  obtain ⟨j0, hj0, hy0, ht0, hu0⟩ := info_parts u64_info
  have HI := Lib.hid hi0
  have HZ := Lib.hid hz0
  have HS := Lib.hid hs0
  have HB := Lib.hid hb0
  have HJ := Lib.hid hj0
  have HY := Lib.hid hy0
  have HTT := Lib.hid ht0
  have HU := Lib.hid hu0
  clear hi0 hz0 hs0 hb0 hj0 hy0 ht0 hu0
  obtain ⟨RL, hRL⟩ : ∃ Z, dropR l n is = Z := ⟨_, rfl⟩
  obtain ⟨DE, hDE⟩ : ∃ Z, dropE l n is = Z := ⟨_, rfl⟩
  have bRL : RL.length ≤ 140737488355328 := by
    rw [← hRL]
    exact dropR_small l n is (by omega)
  go_enter Tryd.func4, Tryd.ntmps4
  go_wp2_with (fail)
  have c1 := large_calls A l c w hll
  rw [d1] at c1
  refine c1.mono ?_
  clear c1
  rintro e w' ⟨rfl, rfl⟩
  clear d1
  have B0 := Lib.hid (Below.refl w.heap.size w)
  have RA := Lib.hid (hr)
  have RB := Lib.hid (hi)
  clear hr hi
  go_wp2_with (first | (at_builtin; refine wpList_clone rfl (.const (.slice none 0 0)) (.tmp 21) 22 rfl 38 j0 Tryd.underlying22 HJ.out HY.out HTT.out HU.out A l c rfl rfl RA.out (by omega) ?_; intro A1 c1 w1 hr1 hf1 hb1 _; have hrb1 := Lib.hid (RB.out.below hb1)) | (at_builtin; refine wpList_icl rfl (.const (.slice none 0 0)) (.tmp 23) 25 rfl 3 i0 Tryd.underlying25 HI.out HZ.out HS.out HB.out B is is.length d rfl rfl rfl hrb1.out (by omega) ?_; intro B1' d1 w2 ho2 hf2 hb2))
  have hbb := hb1
  have B1 := Lib.hid (B0.out.trans (hbb.mono B0.out.size))
  replace RA := Lib.hid (RA.out.below hbb)
  replace RB := Lib.hid (RB.out.below hbb)
  clear B0 hbb
  have RO := Lib.hid (hr1)
  clear hr1 hf1 hb1 hrb1
  have hbb := hb2
  have B2 := Lib.hid (B1.out.trans (hbb.mono B1.out.size))
  replace RA := Lib.hid (RA.out.below hbb)
  replace RB := Lib.hid (RB.out.below hbb)
  replace RO := Lib.hid (RO.out.below hbb)
  clear B1 hbb
  have RM := Lib.hid (ho2.cel)
  clear ho2 hf2 hb2
  have c2 := drop_calls A1 l c1 n B1' is d1 w2 hn hn2 RO.out hl (by omega) RM.out (by omega) RM.out.blk
  refine c2.mono ?_
  clear c2
  rintro e w3 ⟨R1, cR1, rfl, hrr, _, hbc⟩
  rw [hRL, hDE]
  rw [hRL] at hrr
  have hbb := hbc
  have B3 := Lib.hid (B2.out.trans (hbb.mono B2.out.size))
  replace RA := Lib.hid (RA.out.below hbb)
  replace RB := Lib.hid (RB.out.below hbb)
  replace RO := Lib.hid (RO.out.below hbb)
  replace RM := Lib.hid (RM.out.below hbb)
  clear B2 hbb
  have FR1 := Lib.hid (hrr)
  clear hrr hbc
  go_wp2_with (fail)
  have c2 := rdrop_calls A l c n B is d w3 hn hn2 RA.out hl (by omega) RB.out (by omega) RB.out.blk
  refine c2.mono ?_
  clear c2
  rintro e w4 ⟨R2, cR2, rfl, hrr, _, hbc⟩
  rw [hRL, hDE]
  rw [hRL] at hrr
  have hbb := hbc
  have B4 := Lib.hid (B3.out.trans (hbb.mono B3.out.size))
  replace RA := Lib.hid (RA.out.below hbb)
  replace RB := Lib.hid (RB.out.below hbb)
  replace RO := Lib.hid (RO.out.below hbb)
  replace RM := Lib.hid (RM.out.below hbb)
  replace FR1 := Lib.hid (FR1.out.below hbb)
  clear B3 hbb
  have FR2 := Lib.hid (hrr)
  clear hrr hbc
  go_wp2_with (fail)
  have c1 := same_calls R1 R2 RL cR1 cR2 w4 FR1.out FR2.out bRL
  refine c1.mono ?_
  clear c1
  rintro e w' ⟨rfl, q, rfl⟩
  have hbb := below_drewN (Below.refl w4.heap.size w4) q
  have B5 := Lib.hid (B4.out.trans (hbb.mono B4.out.size))
  replace RA := Lib.hid (RA.out.below hbb)
  replace RB := Lib.hid (RB.out.below hbb)
  replace RO := Lib.hid (RO.out.below hbb)
  replace RM := Lib.hid (RM.out.below hbb)
  replace FR1 := Lib.hid (FR1.out.below hbb)
  replace FR2 := Lib.hid (FR2.out.below hbb)
  clear B4 hbb
  generalize (w4.drewN q) = v5 at *
  go_wp2_with (fail)
  have c1 := same_calls A1 A l c1 c v5 RO.out RA.out (by omega)
  refine c1.mono ?_
  clear c1
  rintro e w' ⟨rfl, q, rfl⟩
  have hbb := below_drewN (Below.refl v5.heap.size v5) q
  have B6 := Lib.hid (B5.out.trans (hbb.mono B5.out.size))
  replace RA := Lib.hid (RA.out.below hbb)
  replace RB := Lib.hid (RB.out.below hbb)
  replace RO := Lib.hid (RO.out.below hbb)
  replace RM := Lib.hid (RM.out.below hbb)
  replace FR1 := Lib.hid (FR1.out.below hbb)
  replace FR2 := Lib.hid (FR2.out.below hbb)
  clear B5 hbb
  generalize (v5.drewN q) = v6 at *
  go_wp2_with (fail)
  have c1 := isame_calls B1' B is d1 d v6 RM.out RB.out (by omega)
  refine c1.mono ?_
  clear c1
  rintro e w' ⟨rfl, q, rfl⟩
  have hbb := below_drewN (Below.refl v6.heap.size v6) q
  have B7 := Lib.hid (B6.out.trans (hbb.mono B6.out.size))
  replace RA := Lib.hid (RA.out.below hbb)
  replace RB := Lib.hid (RB.out.below hbb)
  replace RO := Lib.hid (RO.out.below hbb)
  replace RM := Lib.hid (RM.out.below hbb)
  replace FR1 := Lib.hid (FR1.out.below hbb)
  replace FR2 := Lib.hid (FR2.out.below hbb)
  clear B6 hbb
  generalize (v6.drewN q) = v7 at *
  go_wp2_with (fail)
  have c1 := alive_calls v7 (HT.out.below B7.out)
  refine c1.mono ?_
  clear c1
  rintro e w6 ⟨rfl, hbc⟩
  go_wp2_with (fail)
  go_ret
  exact ⟨rfl, B7.out.trans (hbc.mono B7.out.size)⟩
end Go.Proofs.YtaafchcpnceddaaDoor
