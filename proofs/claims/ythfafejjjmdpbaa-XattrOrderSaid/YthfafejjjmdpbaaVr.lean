/- The document's find, Get, Remove, Keys. -/
import Derived.Test.YthfafejjjmdpbaaVy
set_option linter.unusedSimpArgs false
set_option linter.unusedVariables false
namespace Go.Proofs.Ythfafejjjmdpbaa
open Go.RowKit Go.Lib
theorem key_no {a b : ByteArray} (h : a ≠ b) : (a.toList == b.toList) = false := by
  rw [beq_eq_false_iff_ne]
  exact fun e => h (ba_toList.1 e)
theorem sm_first {L : List Xt} {key : ByteArray} {k : Nat} {p : Xt} (h : ∀ j q, j < k → L[j]? = some q → q.key ≠ key) (hp : L[k]? = some p) (hk : p.key = key) : ∃ r, smL L key = p :: r := by
  have hl := (List.getElem?_eq_some_iff.1 hp).1
  have e : L = L.take k ++ p :: L.drop (k + 1) := by
    have := List.take_append_drop k L
    rw [← List.getElem_cons_drop hl] at this
    rw [List.getElem?_eq_getElem hl] at hp
    injection hp with hp
    rw [hp] at this
    exact this.symm
  refine ⟨smL (L.drop (k + 1)) key, ?_⟩
  conv => lhs; rw [e]
  rw [sm_append]
  have e1 : smL (L.take k) key = [] := by
    unfold smL
    rw [List.filter_eq_nil_iff]
    intro q hq
    obtain ⟨j, hj⟩ := List.getElem?_of_mem hq
    have hjl := (List.getElem?_eq_some_iff.1 hj).1
    rw [List.length_take] at hjl
    rw [List.getElem?_take_of_lt (by omega)] at hj
    rw [decide_eq_true_eq]
    exact h j q (by omega) hj
  rw [e1, List.nil_append]
  unfold smL
  rw [List.filter_cons_of_pos (by rw [hk]; simp)]
/-- What the document's find answers. -/
def FindI (L : List Xt) (key : ByteArray) (r : Int) : Prop := (hasB L key = false ∧ r = -1) ∨ (hasB L key = true ∧ ∃ (k : Nat) (p : Xt), r = k ∧ L[k]? = some p ∧ getV L key = p.val)
set_option maxRecDepth 100000 in
theorem rfind_calls (A : Option Addr) (L : List Xt) (c : Nat) (key : ByteArray) (w : World) (hc : Cel w A (xv L)) (hl : L.length ≤ 1099511627776) :
    Calls Try.prog 25 #[.slice A L.length c, .string key] w fun e w' => ∃ r, e = .returned (.int .i64 r) ∧ Hid (FindI L key r) ∧ ∃ q, w' = w.drewN q := by
  obtain ⟨n, hn⟩ : ∃ n, L.length = n := ⟨_, rfl⟩
  have HN := Lib.hid hn
  have HC := Lib.hid hc
  rw [hn] at hl ⊢
  clear hn hc
  go_enter Try.func25, Try.ntmps25
  go_wp2_with (fail)
  go_loopw [5] (fun i wr => ∃ k : Nat, i = .int .i64 k ∧ k ≤ n ∧ Hid (∀ j q, j < k → L[j]? = some q → q.key ≠ key) ∧ ∃ q, wr = w.drewN q) (fun i _ => n - (intOf i).toNat)
  case atStart => exact ⟨0, rfl, by omega, Lib.hid (fun j q h => absurd h (by omega)), 0, rfl⟩
  case round =>
    obtain ⟨k, rfl, hk, HR, q, rfl⟩ := hrel
    by_cases hkn : k < n
    · obtain ⟨b, o, rfl, hbl, hcell⟩ := HC.out.xt (by rw [HN.out]; omega)
      obtain ⟨p, hp⟩ : ∃ p, L[k]? = some p := ⟨_, List.getElem?_eq_getElem (by rw [HN.out]; omega)⟩
      obtain ⟨f1, f2⟩ := hcell k p hp
      have HP := Lib.hid hp
      clear hcell hp
      by_cases he : p.key = key
      · have HV : Hid (FindI L key k) := Lib.hid (by
          obtain ⟨r, hr⟩ := sm_first HR.out HP.out he
          refine .inr ⟨?_, k, p, rfl, HP.out, by unfold getV; rw [hr]⟩
          cases hb : hasB L key
          · rw [hasB_no, hr] at hb; cases hb
          · rfl)
        rw [he] at f1
        clear he
        go_wp2_with (fail)
        go_ret
        exact ⟨k, rfl, HV, _, rfl⟩
      · have hne := key_no he
        have HR' := Lib.hid (show ∀ j q, j < k + 1 → L[j]? = some q → q.key ≠ key from fun j q hj hq => by
          by_cases e : j = k
          · subst e; rw [HP.out] at hq; cases hq; exact he
          · exact HR.out j q (by omega) hq)
        clear he
        generalize p.key = pk at *
        go_wp2_with (fail)
        go_roundw
        case rel => exact ⟨k + 1, by go_num, by omega, HR', q, rfl⟩
        case measure => simp [intOf]; omega
    · obtain rfl : k = n := by omega
      have HV : Hid (FindI L key (-1)) := Lib.hid (.inl ⟨by
        rw [hasB_no]
        unfold smL
        rw [List.filter_eq_nil_iff]
        intro q hq
        obtain ⟨j, hj⟩ := List.getElem?_of_mem hq
        rw [decide_eq_true_eq]
        exact HR.out j q (by rw [← HN.out]; exact (List.getElem?_eq_some_iff.1 hj).1) hj, rfl⟩)
      go_wp2_with (fail)
      go_ret
      exact ⟨-1, rfl, HV, _, rfl⟩
set_option maxRecDepth 100000 in
set_option maxHeartbeats 2000000 in
theorem rget_calls (A : Option Addr) (L : List Xt) (c : Nat) (key : ByteArray) (w : World) (hc : Cel w A (xv L)) (hl : L.length ≤ 1099511627776) (hks : ∀ (k : Nat) q, L[k]? = some q → q.key.size ≤ 1099511627776) (hs : key.size ≤ 1099511627776) :
    Calls Try.prog 15 #[.slice A L.length c, .string key] w fun e w' => e = .returned (.tuple #[.string (getR L key), .int .i64 (getN L key)]) ∧ Below w.heap.size w w' := by
  have cC := rxmay_calls A L c w hc hl hks
  have cF := fun (W : World) (h : Cel W A (xv L)) => rfind_calls A L c key W h hl
  have cK := fun W => rkeyN_calls key W hs
  obtain ⟨n, hn⟩ : ∃ n, L.length = n := ⟨_, rfl⟩
  have HN := Lib.hid hn
  have HC := Lib.hid hc
  clear hc hks hs
  cases hx : xsB L
  case false =>
    have h1 : getN L key = 622 := by unfold getN; rw [if_pos hx]
    have h2 : getR L key = ⟨#[]⟩ := getR_no (by rw [h1]; decide)
    rw [h1, h2]
    rw [hn] at cC ⊢
    rw [hx] at cC
    have CC := Lib.hid cC
    clear hn cC hx hl cF cK h1 h2
    go_enter Try.func15, Try.ntmps15
    go_wp2_with (fail)
    refine CC.out.mono ?_
    rintro e w1 ⟨rfl, hb1⟩
    have HB := Lib.hid hb1
    clear hb1
    go_wp2_with (fail)
    go_ret2
    exact ⟨rfl, HB.out⟩
  case true =>
  have HV0 : Hid (getN L key = if keyN key ≠ 0 then keyN key else if hasB L key = false then 661 else 0) := Lib.hid (by unfold getN; rw [if_neg (by rw [hx]; decide)])
  rw [hx] at cC
  have cF' : Hid (∀ (W : World), Cel W A (xv L) → Calls Try.prog 25 #[.slice A n c, .string key] W fun e w' => ∃ r, e = .returned (.int .i64 r) ∧ Hid (FindI L key r) ∧ ∃ q, w' = W.drewN q) := Lib.hid (by rw [hn] at cF; exact cF)
  rw [hn] at cC hl ⊢
  have CC := Lib.hid cC
  clear hn cC cF hx
  by_cases hm : keyN key = 0
  case neg =>
    have h1 : getN L key = keyN key := by rw [HV0.out, if_pos hm]
    have h2 : getR L key = ⟨#[]⟩ := getR_no (by rw [h1]; exact hm)
    rw [h1, h2]
    have hne : (keyN key == 0) = false := by rw [beq_eq_false_iff_ne]; exact hm
    clear h1 h2 HV0
    generalize keyN key = m at *
    have CK := Lib.hid cK
    clear cK hm
    go_enter Try.func15, Try.ntmps15
    go_wp2_with (fail)
    refine CC.out.mono ?_
    rintro e w1 ⟨rfl, hb1⟩
    have HB := Lib.hid hb1
    clear hb1
    go_wp2_with (fail)
    refine (CK.out _).mono ?_
    rintro e w2 ⟨rfl, q, rfl⟩
    go_wp2_with (fail)
    go_ret2
    exact ⟨rfl, below_drewN HB.out _⟩
  case pos =>
  have HV : Hid (getN L key = if hasB L key = false then 661 else 0) := Lib.hid (by rw [HV0.out, if_neg (by rw [hm]; decide)])
  rw [hm] at cK
  have CK := Lib.hid cK
  clear cK hm HV0
  cases hb : hasB L key
  case false =>
    have h1 : getN L key = 661 := by rw [HV.out, if_pos hb]
    have h2 : getR L key = ⟨#[]⟩ := getR_no (by rw [h1]; decide)
    rw [h1, h2]
    have HH := Lib.hid hb
    clear h1 h2 hb
    go_enter Try.func15, Try.ntmps15
    go_wp2_with (fail)
    refine CC.out.mono ?_
    rintro e w1 ⟨rfl, hb1⟩
    have HB := Lib.hid hb1
    clear hb1
    go_wp2_with (fail)
    refine (CK.out _).mono ?_
    rintro e w2 ⟨rfl, q, rfl⟩
    go_wp2_with (fail)
    refine (cF'.out _ ((HC.out.below HB.out).drewN _)).mono ?_
    rintro e w3 ⟨r, rfl, hF, q2, rfl⟩
    have hr : r = -1 := by
      rcases hF.out with ⟨_, h⟩ | ⟨h, _⟩
      · exact h
      · rw [HH.out] at h; cases h
    subst hr
    go_wp2_with (fail)
    go_ret2
    exact ⟨rfl, below_drewN HB.out _⟩
  case true =>
    have h1 : getN L key = 0 := by rw [HV.out, if_neg (by rw [hb]; decide)]
    have h2 : getR L key = getV L key := getR_yes h1
    rw [h1, h2]
    have HH := Lib.hid hb
    obtain ⟨gv, hgv⟩ : ∃ gv, getV L key = gv := ⟨_, rfl⟩
    rw [hgv]
    have HGV := Lib.hid hgv
    clear h1 h2 hb hgv
    go_enter Try.func15, Try.ntmps15
    go_wp2_with (fail)
    refine CC.out.mono ?_
    rintro e w1 ⟨rfl, hb1⟩
    have HB := Lib.hid hb1
    clear hb1
    go_wp2_with (fail)
    refine (CK.out _).mono ?_
    rintro e w2 ⟨rfl, q, rfl⟩
    go_wp2_with (fail)
    refine (cF'.out _ ((HC.out.below HB.out).drewN _)).mono ?_
    rintro e w3 ⟨r, rfl, hF, q2, rfl⟩
    obtain ⟨k, p, rfl, hp, hv⟩ : ∃ (k : Nat) (p : Xt), r = k ∧ L[k]? = some p ∧ gv = p.val := by
      rcases hF.out with ⟨h, _⟩ | ⟨_, k, p, e1, e2, e3⟩
      · rw [HH.out] at h; cases h
      · exact ⟨k, p, e1, e2, by rw [← HGV.out]; exact e3⟩
    have hkn : k < n := by rw [← HN.out]; exact (List.getElem?_eq_some_iff.1 hp).1
    obtain ⟨b, o, rfl, hbl, hcell⟩ := (HC.out.below HB.out).xt (by rw [HN.out]; omega)
    obtain ⟨f1, f2⟩ := hcell k p hp
    rw [← hv] at f2
    clear hcell hp hv hF f1
    go_wp2_with (fail)
    go_ret2
    exact ⟨rfl, below_drewN HB.out _⟩
/-- All but that key's. -/
def neL (L : List Xt) (key : ByteArray) : List Xt := L.filter fun p => !decide (p.key = key)
theorem neL_append (L M : List Xt) (key : ByteArray) : neL (L ++ M) key = neL L key ++ neL M key := List.filter_append _ _
theorem neL_eq {L : List Xt} {key : ByteArray} (h : Up L) : neL L key = remL L key := by
  conv => lhs; rw [(parts (k := key) h).1]
  rw [neL_append, neL_append]
  have e1 : neL (loL L key) key = loL L key := List.filter_eq_self.2 fun p hp => by rw [decide_eq_false (ltS_ne (mem_lo.1 hp).2)]; rfl
  have e2 : neL (hiL L key) key = hiL L key := List.filter_eq_self.2 fun p hp => by rw [decide_eq_false (ltS_ne' (mem_hi.1 hp).2)]; rfl
  have e3 : neL (smL L key) key = [] := List.filter_eq_nil_iff.2 fun p hp => by
    have := (List.mem_filter.1 hp).2
    rw [this]
    simp
  rw [e1, e2, e3]
  rfl
theorem neL_take {L : List Xt} {key : ByteArray} {k : Nat} {p : Xt} (hp : L[k]? = some p) : neL (L.take (k + 1)) key = neL (L.take k) key ++ if p.key = key then [] else [p] := by
  rw [List.take_add_one, hp, neL_append]
  congr 1
  unfold neL
  by_cases h : p.key = key <;> simp [h]
theorem cel_one {w : World} {g : Nat} {k v : ByteArray} (h : w.heap[g]? = some (.cells #[.string k, .string v] 42 (0, 0))) : Cel w (some ⟨g, 0, none⟩) (xv [⟨k, v⟩]) := fun _ => ⟨_, rfl, lt_of_cells h, one_xt h⟩
set_option maxRecDepth 100000 in
set_option maxHeartbeats 2000000 in
theorem rremove_calls (A : Option Addr) (L : List Xt) (c : Nat) (key : ByteArray) (w : World) (hc : Cel w A (xv L)) (hl : L.length ≤ 1099511627776) (hks : ∀ (k : Nat) q, L[k]? = some q → q.key.size ≤ 1099511627776) (hs : key.size ≤ 1099511627776) :
    Calls Try.prog 17 #[.slice A L.length c, .string key] w fun e w' => ∃ B d, e = .returned (.tuple #[.slice B (remR L key).length d, .int .i64 (getN L key)]) ∧ MineX w w' B (remR L key).length d (remR L key) ∧ Below w.heap.size w w' := by
  have cG := rget_calls A L c key w hc hl hks hs
  obtain ⟨n, hn⟩ : ∃ n, L.length = n := ⟨_, rfl⟩
  have HN := Lib.hid hn
  have HC := Lib.hid hc
  rw [hn] at cG hl ⊢
  generalize getR L key = gr at cG
  clear hn hc hks hs
  by_cases h : getN L key = 0
  case neg =>
    rw [remR_no h]
    obtain ⟨m, hm⟩ : ∃ m, getN L key = m := ⟨_, rfl⟩
    rw [hm] at h cG ⊢
    have hne : (m == 0) = false := by rw [beq_eq_false_iff_ne]; exact h
    have CG := Lib.hid cG
    clear h hm cG
    go_enter Try.func17, Try.ntmps17
    go_wp2_with (fail)
    refine CG.out.mono ?_
    rintro e w1 ⟨rfl, hb⟩
    have HB := Lib.hid hb
    clear hb
    go_wp2_with (fail)
    go_ret2
    exact ⟨none, 0, rfl, mine_nil _ _, HB.out⟩
  case pos =>
    have hx := xsB_up_iff.1 (getN_zero.1 h).1
    have hr : remR L key = neL L key := by rw [neL_eq hx.2.1]; unfold remR; rw [if_pos h]
    rw [h] at cG
    rw [hr, h]
    have h4 : n ≤ 4 := by rw [← HN.out]; exact hx.2.2
    have CG := Lib.hid cG
    clear hx hr h cG
    obtain ⟨M, hM⟩ : ∃ M, neL L key = M := ⟨_, rfl⟩
    rw [hM]
    have HM := Lib.hid hM
    clear hM
    go_enter Try.func17, Try.ntmps17
    go_wp2_with (fail)
    refine CG.out.mono ?_
    rintro e w1 ⟨rfl, hb⟩
    have HB := Lib.hid hb
    clear hb CG
    go_wp2_with (fail)
    go_loopw [8, 9] (fun s i wr => ∃ (k : Nat) (B : Option Addr) (d : Nat) (O : List Xt), i = .int .i64 k ∧ k ≤ n ∧ s = .slice B O.length d ∧ O.length ≤ k ∧ Hid (O = neL (L.take k) key) ∧ Hid (MineX w wr B O.length d O) ∧ Hid (Below w.heap.size w wr)) (fun _ i _ => n - (intOf i).toNat)
    case atStart => exact ⟨0, none, 0, [], rfl, by omega, rfl, by simp, Lib.hid rfl, Lib.hid (mine_nil _ _), HB⟩
    case round =>
      obtain ⟨k, B, d, O, rfl, hk, rfl, hol, HO, HMO, HW⟩ := hrel
      obtain ⟨ol, hoe⟩ : ∃ ol, O.length = ol := ⟨_, rfl⟩
      have HOL := Lib.hid hoe
      rw [hoe] at hol ⊢
      clear hoe
      by_cases hkn : k < n
      · obtain ⟨b, o, rfl, hbl, hcell⟩ := (HC.out.below HW.out).xt (by rw [HN.out]; omega)
        obtain ⟨p, hp⟩ : ∃ p, L[k]? = some p := ⟨_, List.getElem?_eq_getElem (by rw [HN.out]; omega)⟩
        obtain ⟨f1, f2⟩ := hcell k p hp
        have HT := Lib.hid (neL_take (key := key) hp)
        clear hcell hp
        by_cases he : p.key = key
        · have HT' : Hid (O = neL (L.take (k + 1)) key) := Lib.hid (by rw [HT.out, if_pos he, List.append_nil]; exact HO.out)
          rw [he] at f1
          clear he
          go_wp2_with (fail)
          go_roundw
          case rel => exact ⟨k + 1, B, d, O, by go_num, by omega, by rw [HOL.out], by have := HOL.out; omega, HT', HMO, HW⟩
          case measure => simp [intOf]; omega
        · have HT' : Hid (O ++ [⟨p.key, p.val⟩] = neL (L.take (k + 1)) key) := Lib.hid (by rw [HT.out, if_neg he, ← HO.out])
          have hne := key_no he
          clear he
          generalize p.key = pk at *
          generalize p.val = pv at *
          have bA : Below wr.heap.size wr (wr.alloc (.cells #[.string pk, .string pv] 42)) := (Below.refl _ _).alloc (Nat.le_refl _) _
          have HBA := Lib.hid (HW.out.trans (bA.mono HW.out.size))
          have HMA := Lib.hid (HMO.out.on bA)
          have N1 := Lib.hid (cel_one (heap_alloc_new wr (.cells #[.string pk, .string pv] 42)))
          clear bA
          go_wp2_with (at_builtin; refine wpList_xmore rfl (.tmp 32) (.tmp 37) rfl w B O ol d HOL.out.symm rfl HMA.out HBA.out.size (some ⟨wr.heap.size, 0, none⟩) [⟨pk, pv⟩] 1 1 rfl rfl N1.out (by omega) ?_; intro B2 d2 w5 hM5 hb5)
          go_roundw
          case rel => exact ⟨k + 1, B2, d2, O ++ [⟨pk, pv⟩], by go_num, by omega, by first | rfl | simp, by have := HOL.out; simp; omega, HT', Lib.hid hM5, Lib.hid (HBA.out.trans hb5)⟩
          case measure => simp [intOf]; omega
      · obtain rfl : k = n := by omega
        have hOM : O = M := by rw [HO.out, ← HN.out, List.take_length]; exact HM.out
        subst hOM
        go_wp2_with (fail)
        go_ret2
        exact ⟨B, d, by rw [HOL.out]; rfl, HMO.out, HW.out⟩
end Go.Proofs.Ythfafejjjmdpbaa
