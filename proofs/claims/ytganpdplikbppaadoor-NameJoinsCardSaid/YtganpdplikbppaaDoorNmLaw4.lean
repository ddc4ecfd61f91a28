/- NameJoins. -/
import Derived.Test.YtganpdplikbppaaDoorNmLaw1
import Derived.Test.YtganpdplikbppaaDoorNm12
import Derived.Test.YtganpdplikbppaaDoorNm13
import Derived.Deep.AppendLies
import Derived.Deep.RegionHeld3
import Derived.Deep.Upon
import Derived.Lib.QuietBelow
set_option linter.unusedSimpArgs false
set_option linter.unusedVariables false
namespace Go.Proofs.YtganpdplikbppaaDoor
open Go.RowKit Go.Lib Go.Sort SumMath

/-- 'append([]string(nil), xs...)': the same texts in a row of its own, or nil. -/
theorem run_scl (A : Option Addr) (xs : List ByteArray) (c : Nat) (w : World) (ty : TypeId) (hc : Cel w A (sv xs)) (hl : xs.length ≤ 1099511627776) :
    ∃ B cB w', (Builtin.append_ #[27, 27] ty #[.slice none 0 0, .slice A xs.length c]).run Tryd.prog w = .ok (.slice B xs.length cB) w' ∧ Cel w' B (sv xs) ∧ Below w.heap.size w w' ∧ (∀ ad, B = some ad → ∃ g, ad = ⟨g, 0, none⟩ ∧ w.heap.size ≤ g) ∧ xs.length ≤ cB := by
  obtain ⟨i0, hi, hz0, hz1, hz2⟩ := info_parts strInfo
  rcases A with _ | ad
  · have h0 : xs = [] := by
      cases xs with
      | nil => rfl
      | cons x r => obtain ⟨ad, h, _⟩ := hc (by rw [sv_length]; simp); cases h
    subst h0
    refine ⟨none, 0, w, ?_, Cel.nil _ _, Below.refl _ _, (fun ad h => by cases h), Nat.le_refl _⟩
    simp [Builtin.append_, run_underlying Tryd.underlying27, sizeOf, typeInfo, hi, Builtin.lenOf, Builtin.firstCells]
  · have hcell : ∀ j u, (sv xs)[j]? = some u → w.cell? (ad.add j) = some u := by
      intro j u hu
      obtain ⟨ad', h, _, hcc⟩ := hc (by have := (List.getElem?_eq_some_iff.1 hu).1; omega)
      injection h with h
      subst h
      exact hcc j u hu
    obtain ⟨v', w', hrun, h2, h3, _⟩ := run_append_own (P := Tryd.prog) w w.heap.size 27 ty 9 i0 (.string ⟨#[]⟩) 1 16 Tryd.underlying27 hi hz0 hz1 hz2 rfl (by decide) (.slice none 0 0) 0 [] (World.ownsRow_nil _ _ _ _) ad xs.length c (sv xs) (by rw [sv_length]; omega) hcell (by intro u hu; obtain ⟨x, _, rfl⟩ := List.mem_map.1 hu; rfl) (by unfold maxLen; omega) (by omega) (Nat.le_refl _)
    simp only [Nat.zero_add, List.nil_append] at hrun h2
    obtain ⟨B, cB, rfl, hO, hb⟩ := OwnR.of_own h2
    refine ⟨B, cB, w', hrun, hO.cel, ?_, ?_, hO.2.1⟩
    · exact (Below.refl _ _).grown h3 (Nat.le_refl _) (fun k hk => by simp [Value.ownBlock] at hk)
    · intro ad2 h
      have hbb := hb ad2 h
      rcases hO.2.2.2 with ⟨h1, _⟩ | ⟨g, cur, h1, _⟩
      · rw [h1] at h; cases h
      · rw [h1] at h; injection h with h; subst h; exact ⟨g, rfl, hbb⟩
theorem step_scl {ops : Array Oper} {o : Oper} {a : Act} {w : World} {K : Act → World → Prop} {Q : Exit → Act → World → Prop} {E : Prop} (hgd : o.guard = none) (s x : Operand)
    (ho : o.op = .call { callee := .builtin .append, args := #[s, x], argTypes := #[27, 27] })
    (A : Option Addr) (xs : List ByteArray) (n c : Nat) (hn : xs.length = n) (hs : a.eval s = .slice none 0 0) (hx : a.eval x = .slice A n c) (hc : Cel w A (sv xs)) (hl : n ≤ 1099511627776)
    (h : ∀ B cB w', Cel w' B (sv xs) → Below w.heap.size w w' → (∀ ad, B = some ad → ∃ g, ad = ⟨g, 0, none⟩ ∧ w.heap.size ≤ g) → n ≤ cB → K (a.put o.dst (.slice B n cB)) w') :
    if Region.wanted o (yielded ops a.tmps) = true then Oper.wp Tryd.prog o a w K Q else E := by
  subst hn
  have hw : Region.wanted o (yielded ops a.tmps) = true := by simp [Region.wanted, hgd]
  rw [if_pos hw]
  obtain ⟨B, cB, w', hr, h2, h3, h4, h5⟩ := run_scl A xs c w o.type hc hl
  unfold Oper.wp execOp
  simp only [ho, resolve, invoke, builtin, Sem.run_bind, Sem.run_pure, Result.andThen_ok, List.map_toArray, List.map_cons, List.map_nil, hs, hx, hr]
  exact h B cB w' h2 h3 h4 h5
theorem weight_parts {L : List (List UInt8)} (h : ∀ p ∈ L, p.length ≤ 500) : weight L ≤ 501 * L.length := by
  induction L with
  | nil => simp [weight, lens]
  | cons p L ih =>
    have h1 := h p (by simp)
    have h2 := ih fun q hq => h q (List.mem_cons_of_mem _ hq)
    rw [weight_cons, List.length_cons]; omega
theorem below_alloc_drew {U w2 : World} {o : Obj} (h : Below (U.alloc o).drew.heap.size (U.alloc o).drew w2) : Below U.heap.size U w2 :=
  have h1 : Below (U.alloc o).heap.size (U.alloc o) w2 := ⟨h.os, h.tape, h.output, h.size, h.block⟩
  ((Below.refl _ U).alloc (Nat.le_refl _) o).trans (h1.mono (by simp))
theorem cel_alloc_drew {U : World} {A : Option Addr} {xs : List Value} (h : Cel U A xs) (o : Obj) : Cel (U.alloc o).drew A xs := h.below (below_alloc_drew (o := o) (Below.refl _ _))
theorem own_alloc_drew {U w2 : World} {o : Obj} (h : Below (U.alloc o).drew.heap.size (U.alloc o).drew w2) : w2.heap[U.heap.size]? = some o :=
  have h1 : Below (U.alloc o).heap.size (U.alloc o) w2 := ⟨h.os, h.tape, h.output, h.size, h.block⟩
  alloc_later h1
theorem three_set {w0 : World} {B : Nat} {x y z x' y' z' : Value} {t : TypeId} (hw : w0.heap[B]? = some (.cells #[x, y, z] t (0, 0))) :
    (((w0.setCell ⟨B, 0, none⟩ x').setCell ⟨B, 1, none⟩ y').setCell ⟨B, 2, none⟩ z').heap[B]? = some (.cells #[x', y', z'] t (0, 0)) :=
  heap_setCell_same _ _ _ _ _ _ (heap_setCell_same _ _ _ _ _ _ (heap_setCell_same _ _ _ _ _ _ hw))
theorem three_open {w0 : World} {B : Nat} {x y z : Value} {t : TypeId} (hw : w0.heap[B]? = some (.cells #[x, y, z] t (0, 0))) :
    w0.frozen? ⟨B, 0, none⟩ = false ∧ w0.frozen? ⟨B, 1, none⟩ = false ∧ w0.frozen? ⟨B, 2, none⟩ = false := by
  simp [World.frozen?, hw]
set_option maxRecDepth 100000 in
set_option maxHeartbeats 8000000 in
theorem joins_law (r d : Bool) (A : Option Addr) (xs : List ByteArray) (c : Nat) (w : World) (hc : Cel w A (sv xs)) (hle : xs.length ≤ c) (hT : TabAt w) :
    Calls Tryd.prog 5 #[pv r d A xs.length c] w fun e w' => e = .returned (.bool true) ∧ Below w.heap.size w w' := by
  have HT := Lib.hid hT
  obtain ⟨n, hn⟩ : ∃ n, xs.length = n := ⟨_, rfl⟩
  rw [hn] at hle ⊢
  have hb0 : Below w.heap.size w (w.alloc (.cells #[.bool r, .bool d, .slice A n c] 29)) := (Below.refl _ _).alloc (Nat.le_refl _) _
  have HC := Lib.hid (hc.below hb0)
  have HB := Lib.hid hb0
  have HN := Lib.hid hn
  have HLE := Lib.hid hle
  clear hc hb0 hn hT hle
  unfold pv
  go_enter Tryd.func5, Tryd.ntmps5
  go_wp2_with (fail)
  go_loop [3, 4] (fun t i => ∃ (k N : Nat), i = .int .i64 k ∧ t = .int .i64 N ∧ k ≤ n ∧ k ≤ 100 ∧ N ≤ 500 * k ∧ Hid (∀ j x, j < k → xs[j]? = some x → x.size ≤ 500)) (fun _ i => n - (RowKit.intOf i).toNat)
  case atStart => exact ⟨0, 0, rfl, rfl, Nat.zero_le _, by omega, Nat.le_refl _, fun j x h => by omega⟩
  case round =>
    obtain ⟨k, N, rfl, rfl, hk, hk100, hN, hP⟩ := hrel
    by_cases hkn : k < n
    · by_cases hk1 : k < 100
      · obtain ⟨x, hx⟩ : ∃ x, xs[k]? = some x := ⟨_, List.getElem?_eq_getElem (by rw [HN.out]; exact hkn)⟩
        obtain ⟨ad, rfl, hlt, hcell⟩ := HC.out (by rw [sv_length, HN.out]; omega)
        have hck := hcell k (.string x) (sv_at hx)
        have Hx := Lib.hid hx
        clear hcell hx
        by_cases h5 : x.size ≤ 500
        · have h5' : (x.size : Int) ≤ 500 := by omega
          go_wp2_with (fail)
          go_round
          case rel => exact ⟨k + 1, N + x.size, by go_num, by go_num, by omega, by omega, by omega, fun j y hj hy => by
            by_cases hjk : j = k
            · subst hjk; rw [Hx.out] at hy; cases hy; exact h5
            · exact hP.out j y (by omega) hy⟩
          case measure => simp [RowKit.intOf] <;> omega
        · have h5' : (500 : Int) < (x.size : Int) := by omega
          go_wp2_with (fail)
          refine (alive_calls _ (HT.out.below HB.out)).mono ?_
          rintro e w1 ⟨rfl, hb1⟩
          have HB1 := Lib.hid (HB.out.trans (hb1.mono HB.out.size))
          clear hb1
          go_wp2_with (fail)
          go_ret
          exact ⟨rfl, HB1.out⟩
      · obtain rfl : k = 100 := by omega
        have h60 : (60 : Int) < (n : Int) := by omega
        go_wp2_with (fail)
        refine (alive_calls _ (HT.out.below HB.out)).mono ?_
        rintro e w1 ⟨rfl, hb1⟩
        have HB1 := Lib.hid (HB.out.trans (hb1.mono HB.out.size))
        clear hb1
        go_wp2_with (fail)
        go_ret
        exact ⟨rfl, HB1.out⟩
    · obtain rfl : k = n := by omega
      by_cases h60 : k ≤ 60
      · have h60' : (k : Int) ≤ 60 := by omega
        by_cases h2k : N ≤ 2000
        · have h2k' : (N : Int) ≤ 2000 := by omega
          go_wp2_with (fail)
          have z := alloc_later (Below.refl (w.alloc (.cells #[.bool r, .bool d, .slice A k c] 29)).heap.size (w.alloc (.cells #[.bool r, .bool d, .slice A k c] 29)))
          have hsz : (w.alloc (.cells #[.bool r, .bool d, .slice A k c] 29)).heap.size = w.heap.size + 1 := by simp
          generalize w.alloc (.cells #[.bool r, .bool d, .slice A k c] 29) = U at *
          obtain ⟨z0, z1, z2⟩ := three_cells z
          have HSZ := Lib.hid hsz
          have hne1 : ¬ w.heap.size = U.heap.size := by omega
          have hne2 : ¬ U.heap.size = w.heap.size := by omega
          have HZ := Lib.hid z
          clear hsz z
          go_region_held3 (fun w' => w'.cell? ⟨w.heap.size, 0, none⟩ = some (.bool r) ∧ w'.cell? ⟨w.heap.size, 1, none⟩ = some (.bool d) ∧ w'.cell? ⟨w.heap.size, 2, none⟩ = some (.slice A k c)) (go_keep)
            ((refine step_scl (by rfl) _ _ (by rfl) A xs k c HN.out (by rfl) (by rfl) (by first | exact HC.out | exact cel_alloc_drew HC.out _) (by omega) ?_
              intro B cB w2 hC hB hF hlB
              have hB1 : Below U.heap.size U w2 := by
                first
                  | exact ⟨hB.os, hB.tape, hB.output, hB.size, hB.block⟩
                  | exact below_alloc_drew hB
              have y := (hB1.block w.heap.size (by rw [HSZ.out]; omega)).trans HZ.out
              obtain ⟨y0, y1, y2⟩ := three_cells y
              have HC2 := Lib.hid hC
              have HF2 := Lib.hid hF
              have HL2 := Lib.hid hlB
              have HB2 := Lib.hid hB1
              have HY := Lib.hid y
              try (have hO := own_alloc_drew hB; have HO := Lib.hid hO; obtain ⟨o0, o1, o2⟩ := three_cells hO; obtain ⟨f0, f1, f2⟩ := three_open hO; clear hO)
              clear hC hF hlB hB1 hB y))
          · obtain ⟨V, hV⟩ : ∃ V, V = w2.alloc (Obj.cells #[.bool r, .bool d, .slice B k cB] 29) := ⟨_, rfl⟩
            rw [← hV]
            have hAB : Below w2.heap.size w2 V := by rw [hV]; exact (Below.refl _ _).alloc (Nat.le_refl _) _
            have CA := Lib.hid ((HC.out.below HB2.out).below hAB)
            have CB := Lib.hid (HC2.out.below hAB)
            have PV : V.heap[w.heap.size]? = _ := (hAB.block w.heap.size (by have := HB2.out.size; have := HSZ.out; omega)).trans HY.out
            have OV : V.heap[w2.heap.size]? = some (.cells #[.bool r, .bool d, .slice B k cB] 29 (0, 0)) := by rw [hV]; exact alloc_later (Below.refl _ _)
            have BV := Lib.hid ((HB.out.trans (HB2.out.mono HB.out.size)).trans (hAB.mono (Nat.le_trans HB.out.size HB2.out.size)))
            clear hV hAB
            clear HC HB HC2 HB2 HZ HY y0 y1 y2 z0 z1 z2 hne1 hne2
            obtain ⟨p0, p1, p2⟩ := three_cells PV
            obtain ⟨q0, q1, q2⟩ := three_cells OV
            have k0 := cell_regrown p0
            have k1 := cell_regrown p1
            have k2 := cell_regrown p2
            have k3 := cell_regrown q0
            have k4 := cell_regrown q1
            have k5 := cell_regrown q2
            have hw9 : weight (xs.map tl) ≤ 1099511627776 := by
              have h1 := weight_parts (L := xs.map tl) (fun p hp => by
                obtain ⟨x, hx, rfl⟩ := List.mem_map.1 hp
                obtain ⟨j, hj⟩ := List.getElem?_of_mem hx
                have := hP.out j x (by have := (List.getElem?_eq_some_iff.1 hj).1; have := HN.out; omega) hj
                rw [← size_eq]; exact this)
              rw [List.length_map, HN.out] at h1
              omega
            have hj9 : (join (xs.map tl) [47]).length ≤ 1099511627776 := Nat.le_trans (join_le_weight _) hw9
            obtain ⟨T, hTt⟩ : ∃ T : ByteArray, tl T = joinV r d (xs.map tl) := ⟨⟨(joinV r d (xs.map tl)).toArray⟩, by simp [tl]⟩
            have cJ : ∀ dq os, Calls Tryd.prog 18 #[.agg #[.bool r, .bool d, .slice B k cB]] (grow (redrawn V dq) os) fun e w'' => e = .returned (.string T) ∧ ∃ p : Regrown, w'' = grow (redrawn V p.d) p.os :=
              fun dq os => Calls.regrown_of ((show Calls _ _ #[pv r d B k cB] _ _ from HN.out ▸ join_calls r d B xs cB _ (fun ad h => by obtain ⟨g, h1, _⟩ := HF2.out ad h; exact ⟨g, h1⟩) (CB.out.below (below_regrown V dq os)) (by have := HL2.out; have := HN.out; omega) (by have := HN.out; omega) hj9).mono (by rintro e w' ⟨t, rfl, ht, hb⟩; exact ⟨by rw [tl_inj (ht.trans hTt.symm)], hb⟩))
            have cR : ∀ dq os, Calls Tryd.prog 19 #[.agg #[.bool r, .bool d, .slice A k c]] (grow (redrawn V dq) os) fun e w'' => e = .returned (.string T) ∧ ∃ p : Regrown, w'' = grow (redrawn V p.d) p.os :=
              fun dq os => Calls.regrown_of ((show Calls _ _ #[pv r d A k c] _ _ from HN.out ▸ rjoin_calls r d A xs c _ (CA.out.below (below_regrown V dq os)) (by have := HN.out; omega) hw9).mono (by rintro e w' ⟨t, rfl, ht, hb⟩; exact ⟨by rw [tl_inj (ht.trans hTt.symm)], hb⟩))
            have cS : ∀ dq os, Calls Tryd.prog 17 #[.agg #[.bool r, .bool d, .slice B k cB], .agg #[.bool r, .bool d, .slice A k c]] (grow (redrawn V dq) os) fun e w'' => e = .returned (.bool true) ∧ ∃ p : Regrown, w'' = grow (redrawn V p.d) p.os :=
              fun dq os => Calls.regrown_of (show Calls _ _ #[pv r d B k cB, pv r d A k c] _ _ from HN.out ▸ same_calls r d B A xs cB c _ (CB.out.below (below_regrown V dq os)) (CA.out.below (below_regrown V dq os)) (by have := HN.out; omega))
            have cA : ∀ dq os, Calls Tryd.prog 8 #[] (grow (redrawn V dq) os) fun e w'' => e = .returned (.bool true) ∧ ∃ p : Regrown, w'' = grow (redrawn V p.d) p.os :=
              fun dq os => Calls.regrown_of (alive_calls _ ((HT.out.below BV.out).below (below_regrown V dq os)))
            clear PV OV p0 p1 p2 q0 q1 q2 hw9 hj9 hTt HF2 HL2 CA CB HN HT
            go_wp2_with (fail)
            refine wp_region_quiet_below (by kernel_rfl) (by kernel_rfl) ?_
            repeat (first | go_big_quiet_step (first | exact cJ _ _ | exact cR _ _ | exact cS _ _ | exact cA _ _) | quiet_step (first | exact cJ _ _ | exact cR _ _ | exact cS _ _ | exact cA _ _))
            refine wpQuiet_nil ?_
            intro _ hw'
            obtain ⟨⟨dq, osq⟩, hw''⟩ := hw'
            subst hw''
            go_wp2_with (fail)
            go_ret
            exact ⟨rfl, BV.out.trans ((below_regrown V dq osq).mono BV.out.size)⟩
          · obtain ⟨V, hV⟩ : ∃ V, V = (((w2.setCell ⟨U.heap.size, 0, none⟩ (.bool r)).setCell ⟨U.heap.size, 1, none⟩ (.bool d)).setCell ⟨U.heap.size, 2, none⟩ (.slice B k cB)) := ⟨_, rfl⟩
            rw [← hV]
            have hAB : Only (fun i => i = U.heap.size) w2 V := by rw [hV]; refine Only.setCell (Only.setCell (Only.setCell (Only.refl (fun i => i = U.heap.size) w2) ?_ _) ?_ _) ?_ _ <;> exact .inl rfl
            have CA := Lib.hid ((HC.out.below HB2.out).only hAB (fun ad e h0 he => by obtain ⟨ad', e', hl, _⟩ := HC.out h0; rw [e] at e'; injection e' with e'; subst e'; omega))
            have CB := Lib.hid (HC2.out.only hAB (fun ad e h0 he => by obtain ⟨g, rfl, hg⟩ := HF2.out ad e; simp at hg; simp at he; omega))
            have PV : V.heap[w.heap.size]? = _ := (hAB.block w.heap.size (by have := HB2.out.size; have := HSZ.out; omega) hne1).trans HY.out
            have OV : V.heap[U.heap.size]? = some (.cells #[.bool r, .bool d, .slice B k cB] 29 (0, 0)) := by rw [hV]; exact three_set HO.out
            have BV := Lib.hid ((HB.out.trans (HB2.out.mono HB.out.size)).trans (hAB.below (Nat.le_trans HB.out.size HB2.out.size) (by rintro i rfl; exact HB.out.size)))
            clear hV hAB
            clear HC HB HC2 HB2 HZ HY y0 y1 y2 z0 z1 z2 hne1 hne2 HO o0 o1 o2 f0 f1 f2
            obtain ⟨p0, p1, p2⟩ := three_cells PV
            obtain ⟨q0, q1, q2⟩ := three_cells OV
            have k0 := cell_regrown p0
            have k1 := cell_regrown p1
            have k2 := cell_regrown p2
            have k3 := cell_regrown q0
            have k4 := cell_regrown q1
            have k5 := cell_regrown q2
            have hw9 : weight (xs.map tl) ≤ 1099511627776 := by
              have h1 := weight_parts (L := xs.map tl) (fun p hp => by
                obtain ⟨x, hx, rfl⟩ := List.mem_map.1 hp
                obtain ⟨j, hj⟩ := List.getElem?_of_mem hx
                have := hP.out j x (by have := (List.getElem?_eq_some_iff.1 hj).1; have := HN.out; omega) hj
                rw [← size_eq]; exact this)
              rw [List.length_map, HN.out] at h1
              omega
            have hj9 : (join (xs.map tl) [47]).length ≤ 1099511627776 := Nat.le_trans (join_le_weight _) hw9
            obtain ⟨T, hTt⟩ : ∃ T : ByteArray, tl T = joinV r d (xs.map tl) := ⟨⟨(joinV r d (xs.map tl)).toArray⟩, by simp [tl]⟩
            have cJ : ∀ dq os, Calls Tryd.prog 18 #[.agg #[.bool r, .bool d, .slice B k cB]] (grow (redrawn V dq) os) fun e w'' => e = .returned (.string T) ∧ ∃ p : Regrown, w'' = grow (redrawn V p.d) p.os :=
              fun dq os => Calls.regrown_of ((show Calls _ _ #[pv r d B k cB] _ _ from HN.out ▸ join_calls r d B xs cB _ (fun ad h => by obtain ⟨g, h1, _⟩ := HF2.out ad h; exact ⟨g, h1⟩) (CB.out.below (below_regrown V dq os)) (by have := HL2.out; have := HN.out; omega) (by have := HN.out; omega) hj9).mono (by rintro e w' ⟨t, rfl, ht, hb⟩; exact ⟨by rw [tl_inj (ht.trans hTt.symm)], hb⟩))
            have cR : ∀ dq os, Calls Tryd.prog 19 #[.agg #[.bool r, .bool d, .slice A k c]] (grow (redrawn V dq) os) fun e w'' => e = .returned (.string T) ∧ ∃ p : Regrown, w'' = grow (redrawn V p.d) p.os :=
              fun dq os => Calls.regrown_of ((show Calls _ _ #[pv r d A k c] _ _ from HN.out ▸ rjoin_calls r d A xs c _ (CA.out.below (below_regrown V dq os)) (by have := HN.out; omega) hw9).mono (by rintro e w' ⟨t, rfl, ht, hb⟩; exact ⟨by rw [tl_inj (ht.trans hTt.symm)], hb⟩))
            have cS : ∀ dq os, Calls Tryd.prog 17 #[.agg #[.bool r, .bool d, .slice B k cB], .agg #[.bool r, .bool d, .slice A k c]] (grow (redrawn V dq) os) fun e w'' => e = .returned (.bool true) ∧ ∃ p : Regrown, w'' = grow (redrawn V p.d) p.os :=
              fun dq os => Calls.regrown_of (show Calls _ _ #[pv r d B k cB, pv r d A k c] _ _ from HN.out ▸ same_calls r d B A xs cB c _ (CB.out.below (below_regrown V dq os)) (CA.out.below (below_regrown V dq os)) (by have := HN.out; omega))
            have cA : ∀ dq os, Calls Tryd.prog 8 #[] (grow (redrawn V dq) os) fun e w'' => e = .returned (.bool true) ∧ ∃ p : Regrown, w'' = grow (redrawn V p.d) p.os :=
              fun dq os => Calls.regrown_of (alive_calls _ ((HT.out.below BV.out).below (below_regrown V dq os)))
            clear PV OV p0 p1 p2 q0 q1 q2 hw9 hj9 hTt HF2 HL2 CA CB HN HT
            go_wp2_with (fail)
            refine wp_region_quiet_below (by kernel_rfl) (by kernel_rfl) ?_
            repeat (first | go_big_quiet_step (first | exact cJ _ _ | exact cR _ _ | exact cS _ _ | exact cA _ _) | quiet_step (first | exact cJ _ _ | exact cR _ _ | exact cS _ _ | exact cA _ _))
            refine wpQuiet_nil ?_
            intro _ hw'
            obtain ⟨⟨dq, osq⟩, hw''⟩ := hw'
            subst hw''
            go_wp2_with (fail)
            go_ret
            exact ⟨rfl, BV.out.trans ((below_regrown V dq osq).mono BV.out.size)⟩
        · have h2k' : (2000 : Int) < (N : Int) := by omega
          go_wp2_with (fail)
          refine (alive_calls _ (HT.out.below HB.out)).mono ?_
          rintro e w1 ⟨rfl, hb1⟩
          have HB1 := Lib.hid (HB.out.trans (hb1.mono HB.out.size))
          clear hb1
          go_wp2_with (fail)
          go_ret
          exact ⟨rfl, HB1.out⟩
      · have h60' : (60 : Int) < (k : Int) := by omega
        go_wp2_with (fail)
        refine (alive_calls _ (HT.out.below HB.out)).mono ?_
        rintro e w1 ⟨rfl, hb1⟩
        have HB1 := Lib.hid (HB.out.trans (hb1.mono HB.out.size))
        clear hb1
        go_wp2_with (fail)
        go_ret
        exact ⟨rfl, HB1.out⟩
end Go.Proofs.YtganpdplikbppaaDoor
