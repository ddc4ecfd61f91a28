/- PoolApart: for every number of numbers and all steps the law returns true; nothing that was there has turned. -/
import Derived.Test.YtaafchcpnceddaaDoorUr
import Derived.Test.YtaafchcpnceddaaDoorUq
import Derived.Test.YtaafchcpnceddaaDoorUl
import Derived.Test.YtaafchcpnceddaaDoorUn
import Derived.Test.YtaafchcpnceddaaDoorUx
set_option linter.unusedSimpArgs false
set_option linter.unusedVariables false
namespace Go.Proofs.YtaafchcpnceddaaDoor
open Go.RowKit WordMath
theorem ints_info : (Tryd.prog.info? 25).map (fun i => (i.zero, i.size, i.bytes)) = some (some (.slice none 0 0), 1, 24) := by kernel_rfl
section
variable {P : Program}
theorem wpList_minI {ops : Array Oper} {rest : List Oper} {o : Oper} {a : Act} {w : World} {Q : Exit → Act → World → Prop} (hgd : o.guard = none) (x y : Operand) (ts : Array TypeId)
    (ho : o.op = .call { callee := .builtin .min, args := #[x, y], argTypes := ts }) (n1 n2 m : Int) (h1 : a.eval x = .int .i64 n1) (h2 : a.eval y = .int .i64 n2) (hm : min n1 n2 = m)
    (h : wpList P ops Q rest (a.put o.dst (.int .i64 m)) w) : wpList P ops Q (o :: rest) a w :=
  wpList_plain hgd fun K hK => by
    have e : (if n2 < n1 then n2 else n1) = m := by rw [← hm]; split <;> omega
    unfold Oper.wp execOp
    simp only [ho, resolve, invoke, builtin, Sem.run_bind, Sem.run_pure, Result.andThen_ok, List.map_toArray, List.map_cons, List.map_nil, h1, h2, Builtin.min_, List.foldlM_cons, List.foldlM_nil, Builtin.min2, e]
    exact hK _ _ h
theorem wpList_maxI {ops : Array Oper} {rest : List Oper} {o : Oper} {a : Act} {w : World} {Q : Exit → Act → World → Prop} (hgd : o.guard = none) (x y : Operand) (ts : Array TypeId)
    (ho : o.op = .call { callee := .builtin .max, args := #[x, y], argTypes := ts }) (n1 n2 m : Int) (h1 : a.eval x = .int .i64 n1) (h2 : a.eval y = .int .i64 n2) (hm : max n1 n2 = m)
    (h : wpList P ops Q rest (a.put o.dst (.int .i64 m)) w) : wpList P ops Q (o :: rest) a w :=
  wpList_plain hgd fun K hK => by
    have e : (if n2 > n1 then n2 else n1) = m := by rw [← hm]; split <;> omega
    unfold Oper.wp execOp
    simp only [ho, resolve, invoke, builtin, Sem.run_bind, Sem.run_pure, Result.andThen_ok, List.map_toArray, List.map_cons, List.map_nil, h1, h2, Builtin.max_, List.foldlM_cons, List.foldlM_nil, Builtin.max2, e]
    exact hK _ _ h
end
theorem madeCells_ints (n : Nat) : madeCells #[Value.int .i64 0] n = (iv (List.replicate n 0)).toArray := by
  apply Array.ext
  · simp [madeCells, iv]
  · intro i h1 h2
    simp [madeCells, iv, Nat.mod_one]
/-- Between two steps. -/
structure Pst (n : Nat) (w wr : World) (go h : Nat) (rk : List Nat) (R : Option Addr) (ow : List Int) (H : List (List Nat)) (hs : List Value) (Hd : Option Addr) (hn hc : Nat) : Prop where
  held : Held n rk H
  rl : rk.length = 4
  row : Row wr R rk
  pw : Pw w wr go ow H hs Hd hn hc
  zer : ∀ x, x < 256 → x ∉ H.flatten → ow.getD x 0 = 0
  cnt : H.flatten.length = h
  hle : h ≤ n
theorem Pst.below {n : Nat} {w wr w' : World} {go h : Nat} {rk : List Nat} {R : Option Addr} {ow : List Int} {H : List (List Nat)} {hs : List Value} {Hd : Option Addr} {hn hc : Nat} (k : Pst n w wr go h rk R ow H hs Hd hn hc) (hb : Below wr.heap.size wr w') : Pst n w w' go h rk R ow H hs Hd hn hc :=
  ⟨k.held, k.rl, k.row.below hb, k.pw.below hb, k.zer, k.cnt, k.hle⟩
/-- What Take answers there. -/
theorem Pst.take {n : Nat} {w wr : World} {go h : Nat} {rk : List Nat} {R : Option Addr} {ow : List Int} {H : List (List Nat)} {hs : List Value} {Hd : Option Addr} {hn hc : Nat} (k : Pst n w wr go h rk R ow H hs Hd hn hc) (hn255 : n ≤ 255) (K : Nat) :
    takeE rk (n : Int) (K : Int) = if K + h ≤ n then 0 else 4 := by
  have hv : validB rk (n : Int) = true := by rw [validB_iff, k.rl]; omega
  have hf := k.held.free
  have hc := k.cnt
  have hle := k.hle
  have e : frN rk (n : Int) = n - h := by
    show (freesL rk n).length = _
    rw [hf, hc]
  unfold takeE
  rw [hv, if_pos rfl, if_neg (by omega), e]
  by_cases hK : K + h ≤ n
  · rw [if_pos hK, if_neg (by omega)]
  · rw [if_neg hK, if_pos (by omega)]
theorem up_ni (T : List Nat) : up T = ni (T.map (· + 1)) := by
  unfold up ni
  rw [List.map_map]
  exact List.map_congr_left fun i _ => by simp
theorem dn_ni (t : List Nat) : dn (ni t) = t.map (· - 1) := by
  unfold dn ni
  rw [List.map_map]
  exact List.map_congr_left fun i _ => by simp
theorem cells_oneV {w0 : World} {g : Nat} {v : Value} {t : TypeId} (hw : w0.heap[g]? = some (.cells #[v] t (0, 0))) :
    ∀ j u, [v][j]? = some u → w0.cell? ((⟨g, 0, none⟩ : Addr).add j) = some u := by
  intro j u hu
  rw [add_zero_block, cell_of_row w0 g j _ t (0, 0) hw, ← hu, List.getElem?_toArray]
theorem not_take {t : List Nat} (h : t.Nodup) {q : Nat} (hq : q < t.length) : t.getD q 0 ∉ t.take q := by
  intro hm
  obtain ⟨i, hi⟩ := List.getElem?_of_mem hm
  have hiq : i < q := by
    have := (List.getElem?_eq_some_iff.1 hi).1
    rw [List.length_take] at this
    omega
  rw [List.getElem?_take_of_lt hiq] at hi
  obtain ⟨hi1, hi2⟩ := List.getElem?_eq_some_iff.1 hi
  have h3 := List.pairwise_iff_getElem.1 h i q hi1 hq hiq
  have h4 : t.getD q 0 = t[q] := by rw [List.getD_eq_getElem?_getD, List.getElem?_eq_getElem hq]; rfl
  exact h3 (hi2.trans h4)
structure Tkn (n h K : Nat) (H : List (List Nat)) (rk' : List Nat) (t : List Nat) : Prop where
  len : t.length = K
  rl : rk'.length = 4
  held : Held n rk' (H ++ [t])
  at' : ∀ q, q < K → 1 ≤ t.getD q 0 ∧ t.getD q 0 ≤ n ∧ t.getD q 0 ∉ H.flatten ∧ t.getD q 0 ∉ t.take q
  cnt : (H ++ [t]).flatten.length = h + K
theorem Pst.took {n : Nat} {w wr : World} {go h : Nat} {rk : List Nat} {R : Option Addr} {ow : List Int} {H : List (List Nat)} {hs : List Value} {Hd : Option Addr} {hn hc : Nat} (k : Pst n w wr go h rk R ow H hs Hd hn hc) (hn255 : n ≤ 255) (K : Nat) (hK : K + h ≤ n) :
    ∃ rk' t, takeG rk (n : Int) (K : Int) = ni t ∧ takeR rk (n : Int) (K : Int) = rk' ∧ Tkn n h K H rk' t := by
  have hE := k.take hn255 K
  rw [if_pos hK] at hE
  have hf := k.held.free
  have hcnt := k.cnt
  have hlen : (tookL rk n K).length = K := took_len (by rw [hf, hcnt]; omega)
  refine ⟨onsL rk (tookL rk n K), (tookL rk n K).map (· + 1), ?_, takeR_yes hE, ⟨by rw [List.length_map, hlen], by rw [onsL_len, k.rl], k.held.take, fun q hq => ?_, ?_⟩⟩
  · rw [takeG_yes hE, ← up_ni]
    rfl
  · have hm : ((tookL rk n K).map (· + 1)).getD q 0 ∈ (tookL rk n K).map (· + 1) := List.mem_of_getElem? (getD_some (by rw [List.length_map, hlen]; exact hq))
    obtain ⟨a1, a2, a3⟩ := k.held.fresh hm
    exact ⟨a1, a2, a3, not_take (succ_nodup (took_nodup rk n K)) (by rw [List.length_map, hlen]; exact hq)⟩
  · rw [List.flatten_append, List.length_append, hcnt]
    simp [hlen]
theorem Pst.free {n : Nat} {w wr : World} {go h : Nat} {rk : List Nat} {R : Option Addr} {ow : List Int} {H : List (List Nat)} {hs : List Value} {Hd : Option Addr} {hn hc : Nat} (k : Pst n w wr go h rk R ow H hs Hd hn hc) (hn255 : n ≤ 255) :
    freeV rk (n : Int) = (n : Int) - (h : Int) ∧ freeE rk (n : Int) = 0 := by
  have hv : validB rk (n : Int) = true := by rw [validB_iff, k.rl]; omega
  have hf := k.held.free
  have hcnt := k.cnt
  have hle := k.hle
  rw [freeV_yes hv, freeE_yes hv]
  refine ⟨?_, rfl⟩
  have e : frN rk (n : Int) = n - h := by
    show (freesL rk n).length = _
    rw [hf, hcnt]
  rw [e]
  omega
structure Drn (n h : Nat) (rk : List Nat) (H : List (List Nat)) (k : Nat) (t : List Nat) (rk' : List Nat) : Prop where
  e : dropE rk (n : Int) (ni t) = 0
  r : dropR rk (n : Int) (ni t) = rk'
  rl : rk'.length = 4
  held : Held n rk' (H.take k ++ H.drop (k + 1))
  cnt : (H.take k ++ H.drop (k + 1)).flatten.length = h - t.length
  le : t.length ≤ h
  at' : ∀ q, q < t.length → 1 ≤ t.getD q 0 ∧ t.getD q 0 ≤ n
  zer : ∀ x, x ∉ (H.take k ++ H.drop (k + 1)).flatten → x ∉ H.flatten ∨ x ∈ t
theorem Pst.drop {n : Nat} {w wr : World} {go h : Nat} {rk : List Nat} {R : Option Addr} {ow : List Int} {H : List (List Nat)} {hs : List Value} {Hd : Option Addr} {hn hc : Nat} (p : Pst n w wr go h rk R ow H hs Hd hn hc) (hn255 : n ≤ 255) (k : Nat) (t : List Nat) (ht : H[k]? = some t) :
    ∃ rk', Drn n h rk H k t rk' := by
  obtain ⟨hd, hm⟩ := p.held.drops t ht
  have hv : validB rk (n : Int) = true := by rw [validB_iff, p.rl]; omega
  have hok : okB (n : Int) (ni t) = true := by
    unfold okB
    rw [List.all_eq_true]
    intro x hx
    unfold ni at hx
    rw [List.mem_map] at hx
    obtain ⟨a, ha, rfl⟩ := hx
    have := hm a ha
    rw [decide_eq_true_eq]
    omega
  have hE : dropE rk (n : Int) (ni t) = 0 := by
    unfold dropE
    rw [hv, if_pos rfl, hok, if_pos rfl, dn_ni, hd]
    rfl
  have hk : k < H.length := (List.getElem?_eq_some_iff.1 ht).1
  have hsplit : H = H.take k ++ t :: H.drop (k + 1) := by
    have e : H[k] = t := (List.getElem?_eq_some_iff.1 ht).2
    rw [← e, List.getElem_cons_drop, List.take_append_drop]
  have hfl : H.flatten = (H.take k).flatten ++ (t ++ (H.drop (k + 1)).flatten) := by
    conv => lhs; rw [hsplit]
    rw [List.flatten_append, List.flatten_cons]
  have hfe : (H.take k ++ H.drop (k + 1)).flatten = (H.take k).flatten ++ (H.drop (k + 1)).flatten := List.flatten_append
  have hc := p.cnt
  have hl := congrArg List.length hfl
  rw [List.length_append, List.length_append] at hl
  have hl2 := congrArg List.length hfe
  rw [List.length_append] at hl2
  refine ⟨clrsL rk (t.map (· - 1)), hE, by rw [dropR_yes hE, dn_ni], by rw [clrsL_len, p.rl], p.held.drop t ht, by omega, by omega, fun q hq => hm _ (List.mem_of_getElem? (getD_some hq)), fun x hx => ?_⟩
  rw [hfe, List.mem_append] at hx
  by_cases hxt : x ∈ t
  · exact .inr hxt
  · refine .inl fun hm2 => ?_
    rw [hfl, List.mem_append, List.mem_append] at hm2
    rcases hm2 with h1 | h1 | h1
    · exact hx (.inl h1)
    · exact hxt h1
    · exact hx (.inr h1)
theorem OwnR.spotV {w : World} {e : TypeId} {A : Option Addr} {n c : Nat} {xs : List Value} (h : OwnR w e 1 A n c xs) {k : Nat} {v : Value} (hv : xs[k]? = some v) :
    ∃ g, A = some ⟨g, 0, none⟩ ∧ w.cell? ⟨g, k, none⟩ = some v := by
  have hk := (List.getElem?_eq_some_iff.1 hv).1
  obtain ⟨ad, e1, _, hc⟩ := h.cel (by omega)
  have hcv := hc k v hv
  obtain ⟨h1, h2, h3, h4⟩ := h
  rcases h4 with ⟨h4, _⟩ | ⟨g, cur, h4, _⟩
  · rw [h4] at e1; cases e1
  · rw [h4] at e1
    injection e1 with e1
    subst e1
    rw [add_zero_block] at hcv
    exact ⟨g, h4, hcv⟩
section
variable {a : Act} {u : World} {o : Oper}
theorem run_sliceToH {x y : Operand} (ho : o.op = .slice 42 x none (some y) none) (g n c k : Nat) (h1 : a.eval x = .slice (some ⟨g, 0, none⟩) n c) (h2 : a.eval y = .int .i64 (k : Nat)) (hk : k ≤ c) : (execOp a.eval o).run Tryd.prog u = .ok (.value (.slice (some ⟨g, 0, none⟩) k c)) u := by
  have d1 : (k : Int) ≤ (c : Int) := by omega
  unfold execOp
  rw [ho]
  simp only [Option.map_some, Option.map_none, h1, h2]
  simp [go_sem, d1, add_zero]
theorem run_add1 {x : Operand} {t : TypeId} (ho : o.op = .binOp .add 3 x (.const (.int .i64 1)) t) (k : Nat) (h1 : a.eval x = .int .i64 (k : Nat)) (hk : k ≤ 4294967296) : (execOp a.eval o).run Tryd.prog u = .ok (.value (.int .i64 ((k + 1 : Nat) : Int))) u := by
  have e0 : a.eval (.const (.int .i64 1)) = .int .i64 1 := rfl
  have e1 : IntKind.i64.wrap ((k : Int) + 1) = (k : Int) + 1 := by rw [IntKind.wrap_i64]; omega
  unfold execOp
  rw [ho]
  simp only [h1, e0]
  simp [go_sem, e1]
theorem run_sliceFromH {x y : Operand} (ho : o.op = .slice 42 x (some y) none none) (g n c k : Nat) (h1 : a.eval x = .slice (some ⟨g, 0, none⟩) n c) (h2 : a.eval y = .int .i64 ((k + 1 : Nat) : Int)) (hk : k < n) (hc : n ≤ c) : (execOp a.eval o).run Tryd.prog u = .ok (.value (.slice (some (restA g k c)) (n - (k + 1)) (c - (k + 1)))) u := by
  have d1 : ((k + 1 : Nat) : Int) ≤ (n : Int) := by omega
  have d2 : ((k + 1 : Nat) : Int) ≤ (c : Int) := by omega
  have hz := add_zero_block g (k + 1)
  have hA : (if c = k + 1 then (some (⟨g, 0, none⟩ : Addr)) else some ((⟨g, 0, none⟩ : Addr).add (k + 1))) = some (restA g k c) := by
    unfold restA
    split
    · rfl
    · rw [hz]
  unfold execOp
  rw [ho]
  simp only [Option.map_some, Option.map_none, h1, h2]
  rw [← hA]
  generalize k + 1 = q at *
  by_cases hcq : c = q
  · have d4 : ¬ (c : Int) < (n : Int) := by omega
    subst hcq
    obtain rfl : n = c := by omega
    simp [go_sem]
  · simp [go_sem, d1, d2, hcq]
end
set_option maxRecDepth 100000 in
set_option maxHeartbeats 2000000 in
theorem apart_law (n : Int) (A : Option Addr) (l : List Sx) (c : Nat) (w : World) (hn0 : 0 ≤ n) (hn1 : n ≤ 255) (hr : XRow w A l) (hll : l.length ≤ 9223372036854775807) (hb : ∀ k, k < l.length → -9223372036854775808 ≤ (l.getD k sx0).kk ∧ (l.getD k sx0).kk ≤ 9223372036854775807) (hT : TabAt w) :
    Calls Tryd.prog 6 #[.int .u8 n, .slice A l.length c] w fun e w' => e = .returned (.bool true) ∧ Below w.heap.size w w' := by
  have HT := Lib.hid hT
  clear hT
  obtain ⟨n, rfl⟩ := Int.eq_ofNat_of_zero_le hn0
  have hn2 : n ≤ 255 := by omega
  clear hn0 hn1
  by_cases h1 : 100 < l.length
  · go_enter Tryd.func6, Tryd.ntmps6
    go_wp2_with (go_at_call 9; refine (alive_calls _ HT.out).mono ?_; rintro e w' ⟨rfl, hb⟩)
    go_ret
    exact ⟨rfl, hb⟩
  have HBD := Lib.hid hb
  have HXR := Lib.hid hr
  clear hb hr
  obtain ⟨i0, hi0, hz0, hs0, hb0⟩ := info_parts i64_info
  obtain ⟨j0, hj0, hy0, ht0, hu0⟩ := info_parts ints_info
  have HI := Lib.hid hi0
  have HZ := Lib.hid hz0
  have HS := Lib.hid hs0
  have HB := Lib.hid hb0
  have HJ := Lib.hid hj0
  have HY := Lib.hid hy0
  have HTT := Lib.hid ht0
  have HU := Lib.hid hu0
  clear hi0 hz0 hs0 hb0 hj0 hy0 ht0 hu0
  obtain ⟨C4, hC4⟩ : ∃ z, (wv (List.replicate 4 0)).toArray = z := ⟨_, rfl⟩
  obtain ⟨C256, hC256⟩ : ∃ z, (iv (List.replicate 256 0)).toArray = z := ⟨_, rfl⟩
  have hmk1 : ∀ W : World, (Instr.makeSlice 22 (.int .i64 4) (.int .i64 4)).run Tryd.prog W = .ok (.slice (some ⟨W.heap.size, 0, none⟩) 4 4) (W.alloc (.cells C4 38)) := fun W => by
    have h := run_make_row' (P := Tryd.prog) 22 38 (.int .u64 0) 8 Tryd.underlying22 u64_info rfl .i64 .i64 4 (by omega) (by omega) W
    rw [madeCells_words, hC4] at h
    exact h
  have hmk2 : ∀ W : World, (Instr.makeSlice 25 (.int .i64 256) (.int .i64 256)).run Tryd.prog W = .ok (.slice (some ⟨W.heap.size, 0, none⟩) 256 256) (W.alloc (.cells C256 3)) := fun W => by
    have h := run_make_row' (P := Tryd.prog) 25 3 (.int .i64 0) 8 Tryd.underlying25 i64_info rfl .i64 .i64 256 (by omega) (by omega) W
    rw [madeCells_ints, hC256] at h
    exact h
  have hst0 : Pst n w ((w.alloc (.cells C4 38)).alloc (.cells C256 3)) (w.heap.size + 1) 0 (List.replicate 4 0) (some ⟨w.heap.size, 0, none⟩) (List.replicate 256 0) [] [] none 0 0 := by
    have b1 : (w.alloc (.cells C4 38)).heap[w.heap.size]? = some (.cells C4 38 (0, 0)) := heap_alloc_new w _
    have b2 : ((w.alloc (.cells C4 38)).alloc (.cells C256 3)).heap[w.heap.size + 1]? = some (.cells C256 3 (0, 0)) := by
      have := heap_alloc_new (w.alloc (.cells C4 38)) (.cells C256 3)
      rwa [World.size_alloc] at this
    have b3 : ((w.alloc (.cells C4 38)).alloc (.cells C256 3)).heap[w.heap.size]? = some (.cells C4 38 (0, 0)) := (Below.heap_alloc _ _ _ (by rw [World.size_alloc]; omega)).trans b1
    refine ⟨Held.start n 4 (by omega), rfl, ?_, ⟨⟨by rw [iv_length]; rfl, by decide, by decide, .inr ⟨_, _, rfl, b2, ?_, ?_⟩⟩, by omega, rfl, OwnR.nil _ _ _, (fun ad h => by cases h), (fun u h => by cases h), (fun k t h => by cases h), ?_⟩, fun x hx _ => ?_, rfl, Nat.zero_le _⟩
    · refine Blk.row (e := 38) ?_
      unfold Blk
      rw [hC4]
      exact b3
    · rw [← hC256]; simp [iv]
    · rw [← hC256]; simp [iv]
    · exact (on_alloc2 w _).trans ((on_alloc2 _ _).mono (on_alloc2 w _).size)
    · rw [List.getD_eq_getElem?_getD, List.getElem?_replicate, if_pos hx]; rfl
  have HST0 := Lib.hid hst0
  clear hst0 hC4 hC256
  go_enter Tryd.func6, Tryd.ntmps6
  go_wp2_with (fail)
  go_loopw [5, 7, 8, 9] (fun row have_ held i wr => ∃ (j h : Nat) (rk : List Nat) (R : Option Addr) (cr : Nat) (ow : List Int) (H : List (List Nat)) (hs : List Value) (Hd : Option Addr) (hn hc : Nat), i = .int .i64 j ∧ j ≤ l.length ∧ held = .int .i64 h ∧ row = .slice R 4 cr ∧ have_ = .slice Hd hn hc ∧ hn ≤ j ∧ h ≤ n ∧ Hid (Pst n w wr (w.heap.size + 1) h rk R ow H hs Hd hn hc)) (fun _ _ _ i _ => l.length - (intOf i).toNat)
  case atStart => exact ⟨0, 0, _, _, _, _, _, _, _, _, _, rfl, by omega, rfl, rfl, rfl, by omega, by omega, HST0.out⟩
  case round =>
    clear HST0 hmk1 hmk2
    obtain ⟨j, h, rk, R, cr, ow, H, hs, Hd, hn, hc, rfl, hj, rfl, rfl, rfl, hnj, hhn, hst⟩ := hrel
    by_cases hjl : j < l.length
    · obtain ⟨bx, ox, rfl, hbx, hcx⟩ := (HXR.out.below hst.out.pw.bw) (by omega)
      obtain ⟨x0, x1⟩ := hcx j hjl
      obtain ⟨y0, y1⟩ := HBD.out j hjl
      clear hcx
      obtain ⟨tk, htk⟩ : ∃ z, (l.getD j sx0).tk = z := ⟨_, rfl⟩
      obtain ⟨kk, hkk⟩ : ∃ z, (l.getD j sx0).kk = z := ⟨_, rfl⟩
      rw [htk] at x0
      rw [hkk] at x1 y0 y1
      clear htk hkk
      cases tk
      case true =>
        obtain ⟨k1, hk1⟩ : ∃ z, min kk 300 = z := ⟨_, rfl⟩
        obtain ⟨K, hK⟩ : ∃ z : Nat, max k1 0 = (z : Int) := ⟨(max k1 0).toNat, by omega⟩
        have hK3 : K ≤ 300 := by omega
        have HK1 := Lib.hid hk1
        have HK := Lib.hid hK
        clear hk1 hK
        go_wp2_with (first | (refine wpList_minI rfl (.tmp 42) (.const (.int .i64 300)) _ rfl kk 300 k1 rfl rfl HK1.out ?_) | (refine wpList_maxI rfl (.tmp 43) (.const (.int .i64 0)) _ rfl k1 0 (K : Int) rfl rfl HK.out ?_))
        have ct := take_calls R rk cr (n : Int) (K : Int) wr (by omega) (by omega) hst.out.row hst.out.held.wd (by rw [hst.out.rl]; omega) (HT.out.below hst.out.pw.bw)
        unfold TakesP at ct
        rw [hst.out.rl, hst.out.take hn2 K] at ct
        by_cases hKn : K + h ≤ n
        · obtain ⟨rk', t, hG, hR, htk⟩ := hst.out.took hn2 K hKn
          rw [if_pos hKn, hG, hR, ni_len, htk.len, htk.rl] at ct
          have HTK := Lib.hid htk
          refine ct.mono ?_
          clear ct hG hR htk
          rintro e w1 ⟨G, cg, X, cx, rfl, hg, hx, hfx, hb1⟩
          have hgo : w.heap.size + 1 < wr.heap.size := hst.out.pw.own.lt _ rfl
          have HG := Lib.hid (show OwnR w1 3 1 G K cg (iv (ni t)) by
            have := hg.1
            rw [ni_len, HTK.out.len] at this
            exact this)
          have HGo : Hid (∀ ad, G = some ad → ad.block ≠ w.heap.size + 1) := fun ad e => by
            have := hg.2 ad e
            omega
          have HXo : Hid (∀ ad, X = some ad → ad.block ≠ w.heap.size + 1) := fun ad e => by
            have := hfx ad e
            omega
          have HXd : Hid (∀ ad hd, X = some ad → Hd = some hd → ad.block ≠ hd.block) := fun ad hd e e2 => by
            have h1 := hfx ad e
            have h2 := hst.out.pw.hv.lt hd e2
            omega
          have HX := Lib.hid hx
          have HW1 := Lib.hid (hst.out.pw.below hb1)
          have HZ0 := Lib.hid hst.out.zer
          have HHN := Lib.hid hst.out.hle
          clear hg hx hfx hb1 hst
          go_wp2_with (fail)
          go_loopw [14] (fun jj wj => ∃ (q : Nat) (ow' : List Int), jj = .int .i64 q ∧ q ≤ K ∧ Hid (Pw w wj (w.heap.size + 1) ow' H hs Hd hn hc) ∧ Hid (OwnR wj 3 1 G K cg (iv (ni t))) ∧ Hid (Row wj X rk') ∧ Hid (∀ x, x < 256 → x ∉ H.flatten → x ∉ t.take q → ow'.getD x 0 = 0)) (fun jj _ => K - (intOf jj).toNat)
          case atStart => exact ⟨0, ow, rfl, by omega, HW1.out, HG.out, HX.out, fun x hx h1 _ => HZ0.out x hx h1⟩
          case round =>
            clear HW1 HG HX HZ0
            obtain ⟨q, ow', rfl, hq, hw, hg, hx, hz⟩ := hrel
            by_cases hqK : q < K
            · obtain ⟨a1, a2, a3, a4⟩ := HTK.out.at' q hqK
              obtain ⟨g, rfl, hcg, _⟩ := hg.out.spot q hqK
              have htq : (ni t).getD q 0 = ((t.getD q 0 : Nat) : Int) := ni_getD (by rw [HTK.out.len]; exact hqK)
              have hts : t[q]? = some (t.getD q 0) := getD_some (by rw [HTK.out.len]; exact hqK)
              rw [htq] at hcg
              have hz1 := hz.out (t.getD q 0) (by omega) a3 a4
              obtain ⟨go2, e2, hco, hfo⟩ := hw.out.own.spot (t.getD q 0) (by omega)
              injection e2 with e2
              injection e2 with e2
              subst e2
              rw [hz1] at hco
              have A3 := Lib.hid a3
              have HTS := Lib.hid hts
              clear a3 a4 htq hts hz1
              generalize t.getD q 0 = y at *
              have HWV := Lib.hid (hw.out.put y (by omega) ((j : Int) + 1))
              have HGV : Hid (OwnR (wr.setCell ⟨w.heap.size + 1, y, none⟩ (.int .i64 ((j : Int) + 1))) 3 1 (some ⟨g, 0, none⟩) K cg (iv (ni t))) := hg.out.put HGo.out
              have HXV : Hid (Row (wr.setCell ⟨w.heap.size + 1, y, none⟩ (.int .i64 ((j : Int) + 1))) X rk') := hx.out.put HXo.out
              have HZ2 : Hid (∀ x, x < 256 → x ∉ H.flatten → x ∉ t.take (q + 1) → (ow'.set y ((j : Int) + 1)).getD x 0 = 0) := fun x hx h1 h2 => by
                rw [List.take_add_one, HTS.out] at h2
                have hxy : y ≠ x := fun e => h2 (by rw [e]; simp)
                rw [getD_set', if_neg (fun hh => hxy hh.1)]
                exact hz.out x hx h1 (fun hm => h2 (List.mem_append_left _ hm))
              clear hw hg hx hz
              go_wp2_with (fail)
              go_roundw
              case rel => exact ⟨q + 1, _, by go_num, by omega, HWV.out, HGV.out, HXV.out, HZ2.out⟩
              case measure => simp [intOf]; omega
            · obtain rfl : q = K := by omega
              obtain ⟨w2, hw2⟩ : ∃ z : World, wr = z := ⟨_, rfl⟩
              subst hw2
              have hGv : (ni t).length = q := by rw [ni_len, HTK.out.len]
              have hwl : hn + 1 ≤ maxLen := by unfold maxLen; omega
              have HM1 : Hid (∀ (o : Obj) (g' c' : Nat) (w3 : World), OwnR w3 25 1 (some ⟨g', 0, none⟩) (hn + 1) c' (hs ++ [.slice G q cg]) → (wr.alloc o).grownBy w3 (Hd.map (·.block)) → (Hd = some ⟨g', 0, none⟩ ∨ g' = (wr.alloc o).heap.size) → Pst n w w3 (w.heap.size + 1) (h + q) rk' X ow' (H ++ [t]) (hs ++ [.slice G q cg]) (some ⟨g', 0, none⟩) (hn + 1) c') := fun o g' c' w3 h1 h2 h3 => by
                have hlen := HTK.out.len
                refine ⟨HTK.out.held, HTK.out.rl, ?_, ?_, ?_, HTK.out.cnt, by omega⟩
                · refine Row.grown ((hx.out.below (on_alloc2 wr o))) h2 fun ad e e2 => ?_
                  cases hHd : Hd with
                  | none => rw [hHd] at e2; cases e2
                  | some hd =>
                    rw [hHd] at e2
                    injection e2 with e2
                    exact HXd.out ad hd e hHd e2
                · have hm := hw.out.more (o := o) (t := t) (G := G) (cg := cg) (g' := g') (c' := c') (w1 := w3) (by rw [hlen]; exact hg.out) HGo.out (by rw [hlen]; exact h1) h2 h3
                  rw [hlen] at hm
                  exact hm
                · intro x hx1 hx2
                  rw [List.flatten_append, List.mem_append] at hx2
                  refine hz.out x hx1 (fun hm => hx2 (.inl hm)) (fun hm => hx2 (.inr ?_))
                  rw [List.flatten_cons, List.flatten_nil, List.append_nil]
                  exact List.mem_of_mem_take hm
              have HOV := Lib.hid (fun o => hw.out.hv.below (on_alloc2 wr o))
              have HGR := Lib.hid hGv
              clear hw hg hx hz hGv
              go_wp2_with (at_builtin; refine wpList_append_r rfl (.tmp 118) (.tmp 120) 42 rfl 25 j0 _ 1 24 Tryd.underlying42 HJ.out HY.out HTT.out HU.out rfl Hd hn hc hs rfl (HOV.out _) ⟨wr.heap.size, 0, none⟩ 1 1 [.slice G q cg] rfl rfl (cells_oneV (heap_alloc_new _ _)) (by intro u hu; rw [List.mem_singleton] at hu; subst hu; rfl) (by decide) hwl (by omega) ?_; intro g' c' w3 hown3 hgr3 hg3; have HP := Lib.hid (HM1.out _ g' c' w3 hown3 hgr3 hg3); clear hown3 hgr3 hg3)
              have cf := free_calls X rk' cx (n : Int) w3 (by omega) (by omega) HP.out.row HP.out.held.wd (by rw [HP.out.rl]; omega)
              rw [HP.out.rl, (HP.out.free hn2).1, (HP.out.free hn2).2] at cf
              refine cf.mono ?_
              clear cf
              rintro e w' ⟨rfl, rfl⟩
              have hfr : ((n : Int) - ((h + q : Nat) : Int)) = (n : Int) - ((h : Int) + (q : Int)) := by omega
              rw [hfr]
              go_wp2_with (fail)
              go_roundw
              case rel => exact ⟨j + 1, h + q, rk', X, cx, ow', H ++ [t], _, _, hn + 1, c', by go_num, by omega, by go_num, rfl, rfl, by omega, by omega, HP.out⟩
              case measure => simp [intOf]; omega
        · have hE := hst.out.take hn2 K
          rw [if_neg hKn] at hE
          have hGn : takeG rk (n : Int) (K : Int) = [] := takeG_no (by rw [hE]; decide)
          have hRn : takeR rk (n : Int) (K : Int) = [] := takeR_no (by rw [hE]; decide)
          rw [if_neg hKn, hGn, hRn] at ct
          refine ct.mono ?_
          clear ct hGn hRn hE
          rintro e w1 ⟨G, cg, X, cx, rfl, _, _, _, hb1⟩
          have HST1 := Lib.hid (hst.out.below hb1)
          clear hst hb1
          go_wp2_with (fail)
          go_roundw
          case rel => exact ⟨j + 1, h, rk, R, cr, ow, H, hs, Hd, hn, hc, by go_num, by omega, rfl, rfl, rfl, by omega, hhn, HST1.out⟩
          case measure => simp [intOf]; omega
      case false =>
        by_cases hn0 : hn = 0
        · subst hn0
          go_wp2_with (fail)
          have cf := free_calls R rk cr (n : Int) wr (by omega) (by omega) hst.out.row hst.out.held.wd (by rw [hst.out.rl]; omega)
          rw [hst.out.rl, (hst.out.free hn2).1, (hst.out.free hn2).2] at cf
          refine cf.mono ?_
          clear cf
          rintro e w' ⟨rfl, rfl⟩
          go_wp2_with (fail)
          go_roundw
          case rel => exact ⟨j + 1, h, rk, R, cr, ow, H, hs, Hd, 0, hc, by go_num, by omega, rfl, rfl, rfl, by omega, hhn, hst.out⟩
          case measure => simp [intOf]; omega
        · have hnp : (0 : Int) < (hn : Int) := by omega
          obtain ⟨r, hr⟩ : ∃ z, kk.tmod (hn : Int) = z := ⟨_, rfl⟩
          have hr1 : -(hn : Int) < r := by
            rw [← hr]
            have := Int.lt_tmod_of_pos kk hnp
            omega
          have hr2 : r < (hn : Int) := by
            rw [← hr]
            exact Int.tmod_lt_of_pos kk hnp
          obtain ⟨k, hk⟩ : ∃ z : Nat, (r + (hn : Int)).tmod (hn : Int) = (z : Int) := ⟨((r + (hn : Int)).tmod (hn : Int)).toNat, by
            have := Int.tmod_nonneg (hn : Int) (show 0 ≤ r + (hn : Int) by omega)
            omega⟩
          have hkn : k < hn := by
            have := Int.tmod_lt_of_pos (r + (hn : Int)) hnp
            omega
          have hll := hst.out.pw.ll
          obtain ⟨t, ht⟩ : ∃ t, H[k]? = some t := ⟨_, List.getElem?_eq_getElem (by omega)⟩
          obtain ⟨At, ctt, hk1, hk2, hk3⟩ := hst.out.pw.el k t ht
          obtain ⟨g, rfl, hcg⟩ := hst.out.pw.hv.spotV hk1
          obtain ⟨rk', hdr⟩ := hst.out.drop hn2 k t ht
          have cd := drop_calls R rk cr (n : Int) At (ni t) ctt wr (by omega) (by omega) hst.out.row hst.out.held.wd (by rw [hst.out.rl]; omega) hk2.cel (by rw [ni_len]; have := hdr.le; omega) hk2.cel.blk
          unfold DropsP at cd
          rw [hdr.e, hdr.r, hst.out.rl, hdr.rl, ni_len] at cd
          have CD := Lib.hid cd
          clear cd
          have hgo : w.heap.size + 1 < wr.heap.size := hst.out.pw.own.lt _ rfl
          have HD := Lib.hid hdr
          have HK1 := Lib.hid hk1
          have HT1 := Lib.hid ht
          have HST := Lib.hid hst.out
          have HHC : hn ≤ hc := hst.out.pw.hv.2.1
          have hth : t.length ≤ h := hdr.le
          clear hk1 hk2 hk3 hdr hll ht
          go_wp2_with (fail)
          refine (show Calls Tryd.prog 18 _ _ _ from CD.out).mono ?_
          rintro e w1 ⟨X, cx, rfl, hx, hfx, hb1⟩
          have HXo : Hid (∀ ad, X = some ad → ad.block ≠ w.heap.size + 1) := fun ad e => by
            have := hfx ad e
            omega
          have HXd : Hid (∀ ad, X = some ad → ad.block ≠ g) := fun ad e => by
            have h1 := hfx ad e
            have h2 := HST.out.pw.hv.lt _ rfl
            have h3 : g < wr.heap.size := h2
            omega
          have HX := Lib.hid hx
          have HW1 := Lib.hid (HST.out.pw.below hb1)
          have HZ0 := Lib.hid HST.out.zer
          have HHN := Lib.hid HST.out.hle
          clear hx hfx hb1 HST CD hst hcg
          go_wp2_with (fail)
          go_loopw [18] (fun jj wj => ∃ (q : Nat) (ow' : List Int), jj = .int .i64 q ∧ q ≤ t.length ∧ Hid (Pw w wj (w.heap.size + 1) ow' H hs (some ⟨g, 0, none⟩) hn hc) ∧ Hid (Row wj X rk') ∧ Hid (∀ x, x < 256 → (x ∉ H.flatten ∨ x ∈ t.take q) → ow'.getD x 0 = 0)) (fun jj _ => t.length - (intOf jj).toNat)
          case atStart => exact ⟨0, ow, rfl, by omega, HW1.out, HX.out, fun x hx h1 => HZ0.out x hx (by rcases h1 with h1 | h1; exact h1; cases h1)⟩
          case round =>
            clear HW1 HX HZ0
            obtain ⟨q, ow', rfl, hq, hw, hx, hz⟩ := hrel
            obtain ⟨g2, eg2, hcg⟩ := hw.out.hv.spotV HK1.out
            injection eg2 with eg2
            injection eg2 with eg2
            subst eg2
            by_cases hqK : q < t.length
            · obtain ⟨a1, a2⟩ := HD.out.at' q hqK
              obtain ⟨A2, c2, f1, f2, f3⟩ := hw.out.el k t HT1.out
              have f4 := HK1.out.symm.trans f1
              injection f4 with f4
              injection f4 with f5 f6 f7
              subst f5
              obtain ⟨gt, rfl, hct, _⟩ := f2.spot q hqK
              have htq : (ni t).getD q 0 = ((t.getD q 0 : Nat) : Int) := ni_getD hqK
              have hts : t[q]? = some (t.getD q 0) := getD_some hqK
              rw [htq] at hct
              obtain ⟨go2, e2, hco, hfo⟩ := hw.out.own.spot (t.getD q 0) (by omega)
              injection e2 with e2
              injection e2 with e2
              subst e2
              have HTS := Lib.hid hts
              clear htq hts f1 f2 f3
              generalize t.getD q 0 = y at *
              have HWV := Lib.hid (hw.out.put y (by omega) 0)
              have HXV : Hid (Row (wr.setCell ⟨w.heap.size + 1, y, none⟩ (.int .i64 0)) X rk') := hx.out.put HXo.out
              have HZ2 : Hid (∀ x, x < 256 → (x ∉ H.flatten ∨ x ∈ t.take (q + 1)) → (ow'.set y 0).getD x 0 = 0) := fun x hx h1 => by
                have hol : ow'.length = 256 := by
                  have := hw.out.own.1
                  rw [iv_length] at this
                  omega
                rw [getD_set']
                by_cases hxy : y = x
                · rw [if_pos ⟨hxy, by omega⟩]
                · rw [if_neg (fun hh => hxy hh.1)]
                  refine hz.out x hx ?_
                  rcases h1 with h1 | h1
                  · exact .inl h1
                  · rw [List.take_add_one, HTS.out] at h1
                    rcases List.mem_append.1 h1 with h2 | h2
                    · exact .inr h2
                    · simp at h2
                      exact absurd h2.symm hxy
              generalize ow'.getD y 0 = z at *
              clear hw hx hz
              go_wp2_with (fail)
              go_roundw
              case rel => exact ⟨q + 1, _, by go_num, by omega, HWV.out, HXV.out, HZ2.out⟩
              case measure => simp [intOf]; omega
            · obtain rfl : q = t.length := by omega
              have HP : Hid (∀ w3, OwnR w3 25 1 (some ⟨g, 0, none⟩) (hn - 1) hc (hs.take k ++ hs.drop (k + 1)) → ∀ u, On wr u → u.grownBy w3 (some g) → Pst n w w3 (w.heap.size + 1) (h - t.length) rk' X ow' (H.take k ++ H.drop (k + 1)) (hs.take k ++ hs.drop (k + 1)) (some ⟨g, 0, none⟩) (hn - 1) hc) := fun w3 h1 u hu h2 => by
                have HHN2 := HHN.out
                refine ⟨HD.out.held, HD.out.rl, Row.grown (hx.out.below hu) h2 (fun ad e e2 => by injection e2 with e2; exact HXd.out ad e e2), (hw.out.below hu).less hkn h1 h2, fun x hx1 hx2 => ?_, HD.out.cnt, by omega⟩
                refine hz.out x hx1 ?_
                rw [List.take_length]
                exact HD.out.zer x hx2
              have HOV : Hid (∀ u, On wr u → OwnR u 25 1 (some ⟨g, 0, none⟩) hn hc hs) := fun u hu => hw.out.hv.below hu
              have HON := Lib.hid hw.out.one
              clear hx hz
              go_wp2_with (fail)
              clear hcg hw
              refine wp_region_tailT (R := R4 [.val (.slice (some ⟨g, 0, none⟩) hn hc), .val (.int .i64 (k : Nat)), .val (.slice (some ⟨g, 0, none⟩) k hc), .val (.slice (some ⟨g, 0, none⟩) hn hc), .val (.int .i64 (k : Nat)), .val (.int .i64 ((k + 1 : Nat) : Int)), .val (.slice (some (restA g k hc)) (hn - (k + 1)) (hc - (k + 1)))]) 7 (by kernel_rfl) (by kernel_rfl) (by kernel_rfl) (by kernel_rfl) (by kernel_rfl) (by decide) (by kernel_rfl) (fun i v u u' h k => Sp4.stable h k) (fun i o hi h7 => ?hds) (fun vs u hb hR => ?tls)
              case hds =>
                match i, h7 with
                | 0, _ =>
                  injection hi with hi
                  subst hi
                  intro a u hb hA hd
                  have q0 := ev_of (show a.eval (.tmp 7) = .slice (some ⟨g, 0, none⟩) hn hc from hA.eval 7 rfl)
                  refine .inl ⟨rfl, StepOK.run (.slice (some ⟨g, 0, none⟩) hn hc) ?_ rfl (On.refl _)⟩
                  unfold execOp
                  simp [go_sem, q0]
                | 1, _ =>
                  injection hi with hi
                  subst hi
                  intro a u hb hA hd
                  have q0 := ev_of (show a.eval (.tmp 15) = .int .i64 (k : Nat) from hA.eval 15 rfl)
                  refine .inl ⟨rfl, StepOK.run (.int .i64 (k : Nat)) ?_ rfl (On.refl _)⟩
                  unfold execOp
                  simp [go_sem, q0]
                | 2, _ =>
                  injection hi with hi
                  subst hi
                  intro a u hb hA hd
                  exact .inl ⟨rfl, StepOK.run (.slice (some ⟨g, 0, none⟩) k hc) (run_sliceToH rfl g hn hc k (dep hd 0 178 rfl rfl) (dep hd 1 179 rfl rfl) (by omega)) rfl (On.refl _)⟩
                | 3, _ =>
                  injection hi with hi
                  subst hi
                  intro a u hb hA hd
                  have q0 := ev_of (show a.eval (.tmp 7) = .slice (some ⟨g, 0, none⟩) hn hc from hA.eval 7 rfl)
                  refine .inl ⟨rfl, StepOK.run (.slice (some ⟨g, 0, none⟩) hn hc) ?_ rfl (On.refl _)⟩
                  unfold execOp
                  simp [go_sem, q0]
                | 4, _ =>
                  injection hi with hi
                  subst hi
                  intro a u hb hA hd
                  have q0 := ev_of (show a.eval (.tmp 15) = .int .i64 (k : Nat) from hA.eval 15 rfl)
                  refine .inl ⟨rfl, StepOK.run (.int .i64 (k : Nat)) ?_ rfl (On.refl _)⟩
                  unfold execOp
                  simp [go_sem, q0]
                | 5, _ =>
                  injection hi with hi
                  subst hi
                  intro a u hb hA hd
                  exact .inl ⟨rfl, StepOK.run (.int .i64 ((k + 1 : Nat) : Int)) (run_add1 rfl k (dep hd 4 182 rfl rfl) (by omega)) rfl (On.refl _)⟩
                | 6, _ =>
                  injection hi with hi
                  subst hi
                  intro a u hb hA hd
                  exact .inl ⟨rfl, StepOK.run (.slice (some (restA g k hc)) (hn - (k + 1)) (hc - (k + 1))) (run_sliceFromH rfl g hn hc k (dep hd 3 181 rfl rfl) (dep hd 5 183 rfl rfl) (by omega) (by omega)) rfl (On.refl _)⟩
              case tls =>
                have ee2 : vs 2 = .slice (some ⟨g, 0, none⟩) k hc := hR 2 (by decide)
                have ee6 : vs 6 = .slice (some (restA g k hc)) (hn - (k + 1)) (hc - (k + 1)) := hR 6 (by decide)
                simp only [putsFrom, Act.put, List.setIfInBounds_toArray, List.set_cons_succ, List.set_cons_zero, List.take_succ_cons, List.take_zero, List.drop_succ_cons, List.drop_zero, ee2, ee6]
                generalize vs 0 = z0
                generalize vs 1 = z1
                generalize vs 3 = z3
                generalize vs 4 = z4
                generalize vs 5 = z5
                have HBB := Lib.hid hb
                clear hR ee2 ee6 hb
                go_wp2_with (at_builtin; refine wpList_remove rfl (.tmp 180) (.tmp 184) 42 rfl 25 j0 Tryd.underlying42 HJ.out HTT.out g hn hc k hs (HOV.out _ HBB.out) hkn HON.out rfl rfl ?_; intro w3 hown3 hgr3; have HPP := Lib.hid (HP.out w3 hown3 _ HBB.out hgr3); clear hown3 hgr3)
                have cf := free_calls X rk' cx (n : Int) w3 (by omega) (by omega) HPP.out.row HPP.out.held.wd (by rw [HPP.out.rl]; omega)
                rw [HPP.out.rl, (HPP.out.free hn2).1, (HPP.out.free hn2).2] at cf
                refine cf.mono ?_
                clear cf
                rintro e w' ⟨rfl, rfl⟩
                have hfr : ((n : Int) - ((h - t.length : Nat) : Int)) = (n : Int) - ((h : Int) - (t.length : Int)) := by omega
                rw [hfr]
                go_wp2_with (fail)
                go_roundw
                case rel => exact ⟨j + 1, h - t.length, rk', X, cx, ow', _, _, some ⟨g, 0, none⟩, hn - 1, hc, by go_num, by omega, by congr 1; omega, rfl, rfl, by omega, by omega, HPP.out⟩
                case measure => simp [intOf]; omega
    · obtain rfl : j = l.length := by omega
      go_wp2_with (go_at_call 9; refine (alive_calls wr (HT.out.below hst.out.pw.bw)).mono ?_; rintro e w' ⟨rfl, hb⟩)
      go_ret
      exact ⟨rfl, hst.out.pw.bw.trans (hb.mono hst.out.pw.bw.size)⟩
end Go.Proofs.YtaafchcpnceddaaDoor
