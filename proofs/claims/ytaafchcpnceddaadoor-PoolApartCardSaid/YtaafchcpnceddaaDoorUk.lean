/- PoolBack: for every input the law returns true; nothing that was there has turned. -/
import Derived.Test.YtaafchcpnceddaaDoorUj
set_option linter.unusedSimpArgs false
set_option linter.unusedVariables false
namespace Go.Proofs.YtaafchcpnceddaaDoor
open Go.RowKit WordMath
/-- Behind the number taken last. -/
def lastT (T : List Nat) : Nat → Nat
  | 0 => 0
  | j + 1 => T.getD j 0 + 1
structure Bk (l : List Nat) (m K : Nat) (T : List Nat) : Prop where
  len : T.length = K
  lt : ∀ j, j < K → T.getD j 0 < m
  z : ∀ j, j < K → bitL l (T.getD j 0) = 0
  ge : ∀ j, j < K → lastT T j ≤ T.getD j 0
  gap : ∀ j, j < K → ∀ q, lastT T j ≤ q → q < T.getD j 0 → bitL l q = 1
theorem getD_some {T : List Nat} {j : Nat} (h : j < T.length) : T[j]? = some (T.getD j 0) := by
  rw [List.getD_eq_getElem?_getD, List.getElem?_eq_getElem h]; rfl
theorem bk_took {l : List Nat} {m K : Nat} (h : K ≤ (freesL l m).length) : Bk l m K (tookL l m K) := by
  have hlen := took_len h
  have rise : ∀ i j, i < j → j < K → (tookL l m K).getD i 0 < (tookL l m K).getD j 0 := fun i j hij hj => by
    have hr := List.pairwise_iff_getElem.1 (took_rise l m K) i j (by omega) (by omega) hij
    rw [List.getD_eq_getElem?_getD, List.getD_eq_getElem?_getD, List.getElem?_eq_getElem (by omega), List.getElem?_eq_getElem (by omega)]
    exact hr
  have mem : ∀ j, j < K → (tookL l m K).getD j 0 < m ∧ bitL l ((tookL l m K).getD j 0) = 0 := fun j hj => mem_took (List.mem_of_getElem? (getD_some (by omega)))
  refine ⟨hlen, fun j hj => (mem j hj).1, fun j hj => (mem j hj).2, fun j hj => ?_, fun j hj q h1 h2 => ?_⟩
  · cases j with
    | zero => exact Nat.zero_le _
    | succ j => exact rise j (j + 1) (Nat.lt_succ_self _) hj
  · refine took_gap (getD_some (T := tookL l m K) (j := j) (by omega)) q h2 fun j' i' hj' he => ?_
    have e : i' = (tookL l m K).getD j' 0 := by rw [List.getD_eq_getElem?_getD, he]; rfl
    subst e
    cases j with
    | zero => omega
    | succ j =>
      have h3 : (tookL l m K).getD j' 0 ≤ (tookL l m K).getD j 0 := by
        rcases Nat.lt_or_eq_of_le (show j' ≤ j by omega) with h | h
        · exact Nat.le_of_lt (rise j' j h (by omega))
        · rw [h]; exact Nat.le_refl _
      have h4 : (tookL l m K).getD j 0 + 1 ≤ q := h1
      omega
theorem up_getD {T : List Nat} {j : Nat} (h : j < T.length) : (up T).getD j 0 = (T.getD j 0 : Nat) + 1 := by
  unfold up
  rw [List.getD_eq_getElem?_getD, List.getElem?_map, getD_some h]
  rfl
theorem frN_ons {l : List Nat} {m K : Nat} (hm : m ≤ 64 * l.length) (hK : K ≤ (freesL l m).length) : (freesL (onsL l (tookL l m K)) m).length + K = (freesL l m).length := by
  have h1 := frees_len l m
  have h2 := frees_len (onsL l (tookL l m K)) m
  have h3 := cnt_took hm hK
  omega
/-- A list that is turned round as far as i. -/
structure Rv (G : List Int) (N i : Nat) (b : List Int) : Prop where
  len : b.length = N
  at' : ∀ q, q < N → b.getD q 0 = if q < i then G.getD (N - 1 - q) 0 else G.getD q 0
theorem Rv.start {G : List Int} {N : Nat} (h : G.length = N) : Rv G N 0 G := ⟨h, fun q _ => by rw [if_neg (by omega)]⟩
theorem getD_set' (l : List Int) (i j : Nat) (v : Int) : (l.set i v).getD j 0 = if i = j ∧ i < l.length then v else l.getD j 0 := by
  rw [List.getD_eq_getElem?_getD, List.getElem?_set, List.getD_eq_getElem?_getD]
  by_cases h : i = j
  · subst h
    by_cases h2 : i < l.length
    · simp [h2]
    · rw [List.getElem?_eq_none (show l.length ≤ i by omega)]
      simp [h2]
  · simp [h]
theorem Rv.step {G : List Int} {N i : Nat} {b : List Int} (h : Rv G N i b) (hi : i < N) : Rv G N (i + 1) (b.set i (G.getD (N - 1 - i) 0)) := by
  refine ⟨by rw [List.length_set]; exact h.len, fun q hq => ?_⟩
  rw [getD_set', h.at' q hq]
  have hl := h.len
  by_cases h1 : i = q
  · rw [if_pos ⟨h1, by omega⟩, if_pos (by omega), h1]
  · rw [if_neg (fun hh => h1 hh.1)]
    by_cases h2 : q < i
    · rw [if_pos h2, if_pos (by omega)]
    · rw [if_neg h2, if_neg (by omega)]
theorem Rv.done {G : List Int} {N : Nat} {b : List Int} (h : Rv G N N b) (hG : G.length = N) : b = G.reverse := by
  refine List.ext_getElem (by rw [h.len, List.length_reverse, hG]) fun q h1 h2 => ?_
  have hq : q < N := by have := h.len; omega
  have h3 := h.at' q hq
  rw [if_pos hq, List.getD_eq_getElem?_getD, List.getElem?_eq_getElem h1, List.getD_eq_getElem?_getD, List.getElem?_eq_getElem (show N - 1 - q < G.length by omega)] at h3
  rw [List.getElem_reverse]
  have h4 : b[q] = G[N - 1 - q]'(by omega) := h3
  rw [h4]
  congr 1
  omega
theorem Rv.zero {G : List Int} {N : Nat} {b : List Int} (h : Rv G N 0 b) (hG : G.length = N) : b = G := by
  refine List.ext_getElem (by rw [h.len, hG]) fun q h1 h2 => ?_
  have hq : q < N := by have := h.len; omega
  have h3 := h.at' q hq
  rw [if_neg (by omega), List.getD_eq_getElem?_getD, List.getElem?_eq_getElem h1, List.getD_eq_getElem?_getD, List.getElem?_eq_getElem h2] at h3
  exact h3
theorem dn_reverse (b : List Int) : dn b.reverse = (dn b).reverse := by unfold dn; rw [List.map_reverse]
theorem okB_up {m K : Nat} {l : List Nat} : okB (m : Int) (up (tookL l m K)) = true := by
  unfold okB
  rw [List.all_eq_true]
  intro x hx
  unfold up at hx
  rw [List.mem_map] at hx
  obtain ⟨a, ha, rfl⟩ := hx
  have := (mem_took ha).1
  rw [decide_eq_true_eq]
  omega
/-- Dropped, as they were taken or the other way round. -/
theorem drop_back {l : List Nat} {m K : Nat} {b : List Int} (hl : WdL l) (hm : m ≤ 64 * l.length) (hb : b = up (tookL l m K) ∨ b = (up (tookL l m K)).reverse) :
    dropE (onsL l (tookL l m K)) (m : Int) b = 0 ∧ dropR (onsL l (tookL l m K)) (m : Int) b = l := by
  have hd : ((dn b).Nodup ∧ ∀ i, i ∈ dn b ↔ i ∈ tookL l m K) ∧ okB (m : Int) b = true := by
    rcases hb with rfl | rfl
    · rw [dn_up]
      exact ⟨⟨took_nodup l m K, fun i => Iff.rfl⟩, okB_up⟩
    · rw [dn_reverse, dn_up]
      refine ⟨⟨(List.reverse_perm (tookL l m K)).symm.nodup (took_nodup l m K), fun i => List.mem_reverse⟩, ?_⟩
      have := okB_up (m := m) (K := K) (l := l)
      unfold okB at this ⊢
      rw [List.all_reverse]
      exact this
  obtain ⟨⟨h1, h2⟩, h3⟩ := hd
  have hv : validB (onsL l (tookL l m K)) (m : Int) = true := by
    rw [validB_iff, onsL_len]
    omega
  have hE : dropE (onsL l (tookL l m K)) (m : Int) b = 0 := by
    unfold dropE
    rw [hv, if_pos rfl, h3, if_pos rfl, drop_took hm _ h1 h2]
    rfl
  exact ⟨hE, by rw [dropR_yes hE]; exact took_back hl hm _ h2⟩
/-- A store into a row of one's own. -/
theorem OwnR.set {w : World} {e : TypeId} {g n c : Nat} {xs : List Int} (h : OwnR w e 1 (some ⟨g, 0, none⟩) n c (iv xs)) (k : Nat) (hk : k < n) (v : Int) :
    OwnR (w.setCell ⟨g, k, none⟩ (.int .i64 v)) e 1 (some ⟨g, 0, none⟩) n c (iv (xs.set k v)) := by
  obtain ⟨h1, h2, h3, h4⟩ := h
  refine ⟨by rw [iv_set, List.length_set]; exact h1, h2, h3, ?_⟩
  rcases h4 with ⟨h4, _⟩ | ⟨g2, cur, h4, hc, hsz, ht⟩
  · cases h4
  · injection h4 with h4
    injection h4 with h4
    subst h4
    refine .inr ⟨g, cur.setIfInBounds k (.int .i64 v), rfl, by simp [World.setCell, Array.getElem?_modify, hc], by simpa using hsz, ?_⟩
    rw [iv_set, ← ht, Array.toList_setIfInBounds, List.take_set]
theorem OwnR.spot {w : World} {e : TypeId} {A : Option Addr} {n c : Nat} {xs : List Int} (h : OwnR w e 1 A n c (iv xs)) (k : Nat) (hk : k < n) :
    ∃ g, A = some ⟨g, 0, none⟩ ∧ w.cell? ⟨g, k, none⟩ = some (.int .i64 (xs.getD k 0)) ∧ w.frozen? ⟨g, k, none⟩ = false := by
  have hl : xs.length = n := by have := h.1; rw [iv_length] at this; omega
  obtain ⟨ad, e1, hc⟩ := h.cel.int (l := xs) (k := k) (by omega)
  obtain ⟨h1, h2, h3, h4⟩ := h
  rcases h4 with ⟨h4, h5⟩ | ⟨g, cur, h4, hcur, hsz, ht⟩
  · omega
  · rw [h4] at e1
    injection e1 with e1
    subst e1
    rw [add_zero_block] at hc
    exact ⟨g, h4, hc, by simp [World.frozen?, hcur]⟩
set_option maxRecDepth 100000 in
set_option maxHeartbeats 1000000 in
theorem back_law (A : Option Addr) (l : List Nat) (c : Nat) (n k : Int) (tb : Bool) (w : World) (hn : -9223372036854775808 ≤ n) (hn2 : n ≤ 9223372036854775807) (hr : Row w A l) (hl : Wd l) (hll : l.length ≤ 9223372036854775807) (hT : TabAt w) :
    Calls Tryd.prog 5 #[.slice A l.length c, .int .i64 n, .int .i64 k, .bool tb] w fun e w' => e = .returned (.bool true) ∧ Below w.heap.size w w' := by
  have HT := Lib.hid hT
  clear hT
  by_cases h1 : 40 < l.length
  · go_enter Tryd.func5, Tryd.ntmps5
    go_wp2_with (first | (go_at_call 8; refine (large_calls A l c w hll).mono ?_; rintro e w' ⟨rfl, rfl⟩) | (go_at_call 9; refine (alive_calls _ HT.out).mono ?_; rintro e w' ⟨rfl, hb⟩))
    go_ret
    exact ⟨rfl, hb⟩
  have d1 : decide (40 < l.length) = false := decide_eq_false h1
  have ct := take_calls A l c n k w hn hn2 hr hl (by omega) HT.out
  by_cases hE : takeE l n k = 0
  · obtain ⟨hv, hk0, hkf⟩ := takeE_0 hE
    obtain ⟨hn0, hnl⟩ := validB_iff.1 hv
    obtain ⟨m, rfl⟩ := Int.eq_ofNat_of_zero_le hn0
    obtain ⟨K, rfl⟩ := Int.eq_ofNat_of_zero_le hk0
    have hKf : K ≤ (freesL l m).length := by
      have e : frN l (m : Int) = (freesL l m).length := rfl
      omega
    have hG : takeG l (m : Int) (K : Int) = up (tookL l m K) := takeG_yes hE
    have hR : takeR l (m : Int) (K : Int) = onsL l (tookL l m K) := takeR_yes hE
    have hbk := bk_took hKf
    have hfr := frN_ons (l := l) (m := m) (K := K) (by omega) hKf
    have hdb := fun b h => drop_back (l := l) (m := m) (K := K) (b := b) hl (by omega) h
    have hlenR := onsL_len (tookL l m K) l
    have hwdR := onsL_wd hl (tookL l m K)
    have hgl : (up (tookL l m K)).length = K := by rw [up_length]; exact hbk.len
    have hv2 : validB (onsL l (tookL l m K)) (m : Int) = true := by rw [validB_iff, onsL_len]; omega
    have hf1 := free_calls A l c (m : Int)
    have hf2 : ∀ (R : Option Addr) (cr : Nat) (W : World), Row W R (onsL l (tookL l m K)) → Calls Tryd.prog 12 #[.slice R l.length cr, .int .i64 (m : Int)] W fun e w' => e = .returned (.tuple #[.int .i64 ((freesL (onsL l (tookL l m K)) m).length : Nat), .int .i64 0]) ∧ W = w' := fun R cr W h => by
      have := free_calls R (onsL l (tookL l m K)) cr (m : Int) W hn hn2 h hwdR (by omega)
      rw [freeV_yes hv2, freeE_yes hv2, hlenR] at this
      exact this
    have hf1 : ∀ (W : World), Row W A l → Calls Tryd.prog 12 #[.slice A l.length c, .int .i64 (m : Int)] W fun e w' => e = .returned (.tuple #[.int .i64 ((freesL l m).length : Nat), .int .i64 0]) ∧ W = w' := fun W h => by
      have := free_calls A l c (m : Int) W hn hn2 h hl (by omega)
      rw [freeV_yes hv, freeE_yes hv] at this
      exact this
    have hupg : ∀ j, j < K → (up (tookL l m K)).getD j 0 = ((tookL l m K).getD j 0 : Nat) + 1 := fun j hj => up_getD (by rw [hbk.len]; exact hj)
    unfold TakesP at ct
    rw [hG, hR, hE, hgl, hlenR] at ct
    obtain ⟨T, hTT⟩ : ∃ T, tookL l m K = T := ⟨_, rfl⟩
    rw [hTT] at ct hbk hfr hdb hlenR hwdR hgl hf2 hupg
    obtain ⟨GL, hGL⟩ : ∃ G, up T = G := ⟨_, rfl⟩
    obtain ⟨RL, hRL⟩ : ∃ G, onsL l T = G := ⟨_, rfl⟩
    rw [hGL, hRL] at ct hdb
    rw [hGL] at hgl hupg
    rw [hRL] at hlenR hwdR hf2 hfr
    obtain ⟨fa, hfa⟩ : ∃ x, (freesL l m).length = x := ⟨_, rfl⟩
    obtain ⟨fb, hfb⟩ : ∃ x, (freesL RL m).length = x := ⟨_, rfl⟩
    rw [hfa] at hf1 hfr hKf
    rw [hfb] at hf2 hfr
    have hfam : fa ≤ m := by
      have := frees_len l m
      omega
    have HF1 := Lib.hid hf1
    have HF2 := Lib.hid hf2
    have HDB := Lib.hid hdb
    have HBK := Lib.hid hbk
    have HUP := Lib.hid hupg
    have HWR := Lib.hid hwdR
    have HLR := Lib.hid hlenR
    have CT := Lib.hid ct
    have HGL := Lib.hid hgl
    have hfd : (fa : Int) - (fb : Int) = (K : Int) := by omega
    clear hf1 hf2 hdb hbk hupg hwdR hlenR ct hG hR hGL hRL hTT hfa hfb hv hv2 hkf hE hgl
    obtain ⟨i0, hi0, hz0, hs0, hb0⟩ := info_parts i64_info
    have HI := Lib.hid hi0
    have HZ := Lib.hid hz0
    have HS := Lib.hid hs0
    have HB := Lib.hid hb0
    clear hi0 hz0 hs0 hb0
    go_enter Tryd.func5, Tryd.ntmps5
    go_wp2_with (fail)
    have c1 := large_calls A l c w hll
    rw [d1] at c1
    refine c1.mono ?_
    clear c1
    rintro e w' ⟨rfl, rfl⟩
    clear d1
    have B0 := Lib.hid (Below.refl w.heap.size w)
    have RA := Lib.hid (hr)
    clear hr
    go_wp2_with (fail)
    refine (show Calls Tryd.prog 10 _ _ _ from CT.out).mono ?_
    rintro e w1 ⟨G, cg, R, cr, rfl, hg, hrr, _, hb1⟩
    have hbb := hb1
    have B1 := Lib.hid (B0.out.trans (hbb.mono B0.out.size))
    replace RA := Lib.hid (RA.out.below hbb)
    clear B0 hbb
    have FG := Lib.hid (hg.cel)
    have FR := Lib.hid (hrr)
    clear hg hrr hb1 CT
    go_wp2_with (fail)
    refine (HF1.out w1 RA.out).mono ?_
    rintro e w' ⟨rfl, rfl⟩
    go_wp2_with (fail)
    refine (HF2.out R cr w1 FR.out).mono ?_
    rintro e w' ⟨rfl, rfl⟩
    go_wp2_with (fail)
    go_loop [16, 17] (fun last i => ∃ j p : Nat, i = .int .i64 j ∧ j ≤ K ∧ last = .int .i64 (p : Int) ∧ Hid (lastT T j = p)) (fun _ i => K - (intOf i).toNat)
    case atStart => exact ⟨0, 0, rfl, by omega, rfl, rfl⟩
    case round =>
      obtain ⟨j, p, rfl, hj, rfl, hp⟩ := hrel
      by_cases hjK : j < K
      · obtain ⟨ad, rfl, hcj⟩ := FG.out.int (k := j) (by rw [HGL.out]; exact hjK)
        rw [HUP.out j hjK] at hcj
        have t1 := HBK.out.lt j hjK
        have t2 := HBK.out.z j hjK
        have t3 := HBK.out.ge j hjK
        have t4 := HBK.out.gap j hjK
        have t5 : Hid (lastT T (j + 1) = T.getD j 0 + 1) := rfl
        rw [hp.out] at t3 t4
        generalize T.getD j 0 = t at *
        have T2 := Lib.hid t2
        have T4 := Lib.hid t4
        clear t2 t4
        go_wp2_with (fail)
        go_loop [18] (fun jj => ∃ q : Nat, jj = .int .i64 ((q : Int) + 1) ∧ p ≤ q ∧ q ≤ t + 1) (fun jj => t + 2 - (intOf jj).toNat)
        case atStart => exact ⟨p, rfl, by omega, by omega⟩
        case round =>
          obtain ⟨q, rfl, hq1, hq2⟩ := hrel
          by_cases hqt : q ≤ t
          · obtain ⟨adl, rfl, _, hcs⟩ := RA.out (by omega)
            have hcl := hcs (q / 64) (by omega)
            have hw := hl (q / 64)
            have hbe : bitL l q = bitN (l.getD (q / 64) 0) (q % 64) := rfl
            have e1 : ((q : Int) + 1 - 1) = (q : Int) := by omega
            have hbt := bitN_lt (l.getD (q / 64) 0) (q % 64)
            have hbit : bits BinOp.and IntKind.u64 (((l.getD (q / 64) 0 : Nat) : Int) / 2 ^ (q % 64)) 1 = (bitN (l.getD (q / 64) 0) (q % 64) : Nat) := by
              have := bit_key (l.getD (q / 64) 0 : Nat) ((q % 64 : Nat) : Int) (by omega) (by omega) (by omega) (by omega)
              rwa [Int.toNat_natCast, Int.toNat_natCast] at this
            clear hcs
            by_cases hqe : q = t
            · subst hqe
              have h0 : bitN (l.getD (q / 64) 0) (q % 64) = 0 := by rw [← hbe]; exact T2.out
              rw [h0] at hbit
              clear hbe hbt h0
              generalize l.getD (q / 64) 0 = x at *
              go_wp2_with (fail)
              go_round
              case rel => exact ⟨q + 1, by go_num, by omega, by omega⟩
              case measure => simp [intOf]; omega
            · have h0 : bitN (l.getD (q / 64) 0) (q % 64) = 1 := by rw [← hbe]; exact T4.out q hq1 (by omega)
              rw [h0] at hbit
              have hqb : ((q : Int) + 1 == (t : Int) + 1) = false := by rw [beq_eq_false_iff_ne]; omega
              have hqb2 : ((q : Int) == (t : Int)) = false := by rw [beq_eq_false_iff_ne]; omega
              have hqb3 : (q == t) = false := by rw [beq_eq_false_iff_ne]; exact hqe
              clear hbe hbt h0
              generalize l.getD (q / 64) 0 = x at *
              go_wp2_with (fail)
              go_round
              case rel => exact ⟨q + 1, by go_num, by omega, by omega⟩
              case measure => simp [intOf]; omega
          · obtain rfl : q = t + 1 := by omega
            go_wp2_with (fail)
            go_round
            case rel => exact ⟨j + 1, t + 1, by go_num, by omega, by go_num, t5.out⟩
            case measure => simp [intOf]; omega
      · obtain rfl : j = K := by omega
        clear hp HBK HUP
        go_wp2_with (at_builtin; refine wpList_icl rfl (.const (.slice none 0 0)) (.tmp 155) 25 rfl 3 i0 Tryd.underlying25 HI.out HZ.out HS.out HB.out G GL j cg HGL.out rfl rfl FG.out (by rw [HGL.out]; omega) ?_; intro Bk d1 w2 ho2 hf2 hb2)
        go_loopw [21] (fun i wr => ∃ (q : Nat) (bl : List Int), i = .int .i64 q ∧ q ≤ j ∧ Hid (Rv GL j q bl) ∧ Hid (OwnR wr 3 1 Bk j d1 (iv bl)) ∧ Hid (Below w1.heap.size w1 wr) ∧ Hid (tb = false → q = 0)) (fun i _ => j - (intOf i).toNat)
        case atStart => exact ⟨0, GL, rfl, by omega, Rv.start HGL.out, ho2, hb2, fun _ => rfl⟩
        case round =>
          clear ho2 hb2
          obtain ⟨q, bl, rfl, hq, hrv, ho, hbw, htb⟩ := hrel
          by_cases hgo : tb = true ∧ q < j
          · obtain ⟨rfl, hqj⟩ := hgo
            obtain ⟨g, hBk, hc, hf⟩ := ho.out.spot q hqj
            obtain ⟨ad, rfl, hcx⟩ := (FG.out.below hbw.out).int (k := j - 1 - q) (by rw [HGL.out]; omega)
            have e1 : ((j : Int) - 1 - (q : Int)) = ((j - 1 - q : Nat) : Int) := by omega
            have hrv2 := Lib.hid (hrv.out.step hqj)
            have hgB : w1.heap.size ≤ g := hf2 _ hBk
            subst hBk
            have ho2 := fun v => ho.out.set q hqj v
            have HO2 := Lib.hid ho2
            clear ho2
            generalize GL.getD (j - 1 - q) 0 = x at *
            generalize bl.getD q 0 = y at *
            go_wp2_with (fail)
            go_roundw
            case rel => exact ⟨q + 1, _, by go_num, by omega, hrv2, HO2.out x, hbw.out.setCell (p := ⟨g, q, none⟩) hgB _, fun h => by cases h⟩
            case measure => simp [intOf]; omega
          · have hend : bl = GL ∨ bl = GL.reverse := by
              cases tb with
              | false =>
                have h0 := htb.out rfl
                subst h0
                exact .inl (hrv.out.zero HGL.out)
              | true =>
                have hqj : q = j := by
                  have : ¬ q < j := fun h => hgo ⟨rfl, h⟩
                  omega
                subst hqj
                exact .inr (hrv.out.done HGL.out)
            have hbl : bl.length = j := hrv.out.len
            have hdd := HDB.out bl hend
            have HBW := Lib.hid (B1.out.trans (hbw.out.mono B1.out.size))
            have c2 := drop_calls R RL cr (m : Int) Bk bl d1 wr hn hn2 (FR.out.below hbw.out) HWR.out (by rw [HLR.out]; omega) ho.out.cel (by omega) ho.out.cel.blk
            unfold DropsP at c2
            rw [hdd.1, hdd.2, hbl, HLR.out] at c2
            have C2 := Lib.hid c2
            have RA2 := Lib.hid (RA.out.below hbw.out)
            have hcases : (tb = true ∧ j ≤ q) ∨ (tb = false ∧ q < j) ∨ (tb = false ∧ j ≤ q) := by
              cases tb with
              | true => exact .inl ⟨rfl, by have : ¬ q < j := fun h => hgo ⟨rfl, h⟩; omega⟩
              | false => exact .inr (by rcases Nat.lt_or_ge q j with h | h; exact .inl ⟨rfl, h⟩; exact .inr ⟨rfl, h⟩)
            clear hend hbl hdd c2 ho hrv RA FG FR hgo HDB
            rcases hcases with ⟨rfl, hqq⟩ | ⟨rfl, hqq⟩ | ⟨rfl, hqq⟩
            · clear htb
              go_wp2_with (fail)
              refine (show Calls Tryd.prog 18 _ _ _ from C2.out).mono ?_
              rintro e w3 ⟨X, cx, rfl, hx, _, hb3⟩
              have HB3 := Lib.hid (HBW.out.trans (hb3.mono HBW.out.size))
              have HX := Lib.hid hx
              have RA3 := Lib.hid (RA2.out.below hb3)
              clear hx hb3
              go_wp2_with (fail)
              have c1 := same_calls X A l cx c w3 HX.out RA3.out (by omega)
              refine c1.mono ?_
              clear c1
              rintro e w' ⟨rfl, z, rfl⟩
              have HB4 := Lib.hid (below_drewN HB3.out z)
              generalize w3.drewN z = w4 at *
              go_wp2_with (fail)
              refine (alive_calls w4 (HT.out.below HB4.out)).mono ?_
              rintro e w5 ⟨rfl, hb5⟩
              go_wp2_with (fail)
              go_ret
              exact ⟨rfl, HB4.out.trans (hb5.mono HB4.out.size)⟩
            · clear htb
              go_wp2_with (fail)
              refine (show Calls Tryd.prog 18 _ _ _ from C2.out).mono ?_
              rintro e w3 ⟨X, cx, rfl, hx, _, hb3⟩
              have HB3 := Lib.hid (HBW.out.trans (hb3.mono HBW.out.size))
              have HX := Lib.hid hx
              have RA3 := Lib.hid (RA2.out.below hb3)
              clear hx hb3
              go_wp2_with (fail)
              have c1 := same_calls X A l cx c w3 HX.out RA3.out (by omega)
              refine c1.mono ?_
              clear c1
              rintro e w' ⟨rfl, z, rfl⟩
              have HB4 := Lib.hid (below_drewN HB3.out z)
              generalize w3.drewN z = w4 at *
              go_wp2_with (fail)
              refine (alive_calls w4 (HT.out.below HB4.out)).mono ?_
              rintro e w5 ⟨rfl, hb5⟩
              go_wp2_with (fail)
              go_ret
              exact ⟨rfl, HB4.out.trans (hb5.mono HB4.out.size)⟩
            · clear htb
              go_wp2_with (fail)
              refine (show Calls Tryd.prog 18 _ _ _ from C2.out).mono ?_
              rintro e w3 ⟨X, cx, rfl, hx, _, hb3⟩
              have HB3 := Lib.hid (HBW.out.trans (hb3.mono HBW.out.size))
              have HX := Lib.hid hx
              have RA3 := Lib.hid (RA2.out.below hb3)
              clear hx hb3
              go_wp2_with (fail)
              have c1 := same_calls X A l cx c w3 HX.out RA3.out (by omega)
              refine c1.mono ?_
              clear c1
              rintro e w' ⟨rfl, z, rfl⟩
              have HB4 := Lib.hid (below_drewN HB3.out z)
              generalize w3.drewN z = w4 at *
              go_wp2_with (fail)
              refine (alive_calls w4 (HT.out.below HB4.out)).mono ?_
              rintro e w5 ⟨rfl, hb5⟩
              go_wp2_with (fail)
              go_ret
              exact ⟨rfl, HB4.out.trans (hb5.mono HB4.out.size)⟩

  · have hGn : takeG l n k = [] := takeG_no hE
    have hRn : takeR l n k = [] := takeR_no hE
    have hE2 : takeE l n k = 2 ∨ takeE l n k = 4 := by
      unfold takeE at hE ⊢
      split
      · rename_i hv
        rw [if_pos hv] at hE
        split
        · exact .inl rfl
        · rename_i h2
          rw [if_neg h2] at hE
          split
          · exact .inr rfl
          · rename_i h3
            rw [if_neg h3] at hE
            exact absurd rfl hE
      · exact .inl rfl
    unfold TakesP at ct
    rw [hGn, hRn] at ct
    generalize takeE l n k = E at *
    have CT := Lib.hid ct
    clear ct hGn hRn hE
    rcases hE2 with rfl | rfl
    all_goals
      go_enter Tryd.func5, Tryd.ntmps5
      go_wp2_with (fail)
      have c1 := large_calls A l c w hll
      rw [d1] at c1
      refine c1.mono ?_
      clear c1
      rintro e w' ⟨rfl, rfl⟩
      go_wp2_with (fail)
      refine (show Calls Tryd.prog 10 _ _ _ from CT.out).mono ?_
      rintro e w1 ⟨G, cg, R, cr, rfl, _, _, _, hb1⟩
      go_wp2_with (fail)
      refine (alive_calls w1 (HT.out.below hb1)).mono ?_
      rintro e w2 ⟨rfl, hb2⟩
      go_wp2_with (fail)
      go_ret
      exact ⟨rfl, hb1.trans (hb2.mono hb1.size)⟩
end Go.Proofs.YtaafchcpnceddaaDoor
