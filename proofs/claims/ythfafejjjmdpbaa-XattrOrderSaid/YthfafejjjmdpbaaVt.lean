/- The document's Set, and its Keys. -/
import Derived.Test.YthfafejjjmdpbaaVr
set_option linter.unusedSimpArgs false
set_option linter.unusedVariables false
namespace Go.Proofs.Ythfafejjjmdpbaa
open Go.RowKit Go.Lib
/-! ### Keys -/
/-- A row of keys of the call's own (made at w). -/
def MineK (w w' : World) (A : Option Addr) (n c : Nat) (L : List Xt) : Prop := OwnR w' 9 1 A n c (kv L) ∧ ∀ ad, A = some ad → w.heap.size ≤ ad.block
theorem MineK.on {w w' w'' : World} {A : Option Addr} {n c : Nat} {L : List Xt} (h : MineK w w' A n c L) (hb : Below w'.heap.size w' w'') : MineK w w'' A n c L :=
  ⟨h.1.keep fun ad e => hb.block _ (h.1.lt ad e), h.2⟩
theorem one_key {w : World} {g : Nat} {k : ByteArray} (h : w.heap[g]? = some (.cells #[.string k] 9 (0, 0))) : ∀ j u, ([.string k] : List Value)[j]? = some u → w.cell? ((⟨g, 0, none⟩ : Addr).add j) = some u := fun j u hu => by
  rw [add_zero_block, cell_of_row w g j _ 9 (0, 0) h]
  rw [← hu]
  simp
set_option maxRecDepth 100000 in
set_option maxHeartbeats 2000000 in
theorem rkeys_calls (A : Option Addr) (L : List Xt) (c : Nat) (w : World) (hc : Cel w A (xv L)) (hl : L.length ≤ 1099511627776) :
    Calls Try.prog 20 #[.slice A L.length c] w fun e w' => ∃ B d, e = .returned (.slice B L.length d) ∧ Hid (Cel w' B (kv L)) ∧ Below w.heap.size w w' := by
  obtain ⟨i0, hi0, hz0, hs0, hb0⟩ := info_parts string_info
  have HI := Lib.hid hi0
  have HZ := Lib.hid hz0
  have HS := Lib.hid hs0
  have HBY := Lib.hid hb0
  clear hi0 hz0 hs0 hb0
  obtain ⟨n, hn⟩ : ∃ n, L.length = n := ⟨_, rfl⟩
  have HN := Lib.hid hn
  have HC := Lib.hid hc
  rw [hn] at hl ⊢
  clear hn hc
  go_enter Try.func20, Try.ntmps20
  go_wp2_with (fail)
  go_loopw [3, 4] (fun s i wr => ∃ (k : Nat) (B : Option Addr) (d : Nat), i = .int .i64 k ∧ k ≤ n ∧ s = .slice B k d ∧ Hid (MineK w wr B k d (L.take k)) ∧ Hid (Below w.heap.size w wr)) (fun _ i _ => n - (intOf i).toNat)
  case atStart => exact ⟨0, none, 0, rfl, by omega, rfl, Lib.hid ⟨OwnR.nil _ _ _, fun ad h => by cases h⟩, Lib.hid (Below.refl _ _)⟩
  case round =>
    obtain ⟨k, B, d, rfl, hk, rfl, HM, HW⟩ := hrel
    by_cases hkn : k < n
    · obtain ⟨b, o, rfl, hbl, hcell⟩ := (HC.out.below HW.out).xt (by rw [HN.out]; omega)
      obtain ⟨p, hp⟩ : ∃ p, L[k]? = some p := ⟨_, List.getElem?_eq_getElem (by rw [HN.out]; omega)⟩
      obtain ⟨f1, f2⟩ := hcell k p hp
      have HT : Hid (kv (L.take k) ++ [.string p.key] = kv (L.take (k + 1))) := Lib.hid (by rw [List.take_add_one, hp, kv_append]; rfl)
      clear hcell hp f2
      generalize p.key = pk at *
      have bA : Below wr.heap.size wr (wr.alloc (.cells #[.string pk] 9)) := (Below.refl _ _).alloc (Nat.le_refl _) _
      have HBA := Lib.hid (HW.out.trans (bA.mono HW.out.size))
      have HMA := Lib.hid (HM.out.on bA)
      have N1 := Lib.hid (one_key (heap_alloc_new wr (.cells #[.string pk] 9)))
      clear bA
      go_wp2_with (at_builtin; refine wpList_append_r rfl (.tmp 11) (.tmp 17) 34 rfl 9 i0 _ 1 16 Try.underlying34 HI.out HZ.out HS.out HBY.out rfl B k d _ rfl HMA.out.1 ⟨wr.heap.size, 0, none⟩ 1 1 [.string pk] rfl rfl N1.out (by intro u hu; obtain rfl := List.mem_singleton.1 hu; rfl) (by decide) (by unfold maxLen; omega) (by omega) ?_; intro g2 d2 w5 hO5 hg5 hor5)
      go_roundw
      case rel =>
        refine ⟨k + 1, some ⟨g2, 0, none⟩, d2, by go_num, by omega, rfl, Lib.hid ⟨by rw [← HT.out]; exact hO5, fun ad e => ?_⟩, Lib.hid (HBA.out.grown hg5 HBA.out.size (fun j hj => ?_))⟩
        · injection e with e
          subst e
          rcases hor5 with h | h
          · exact HM.out.2 _ h
          · subst h; exact HBA.out.size
        · cases B with
          | none => cases hj
          | some a1 => injection hj with hj; subst hj; exact HM.out.2 _ rfl
      case measure => simp [intOf]; omega
    · obtain rfl : k = n := by omega
      go_wp2_with (fail)
      go_ret
      exact ⟨B, d, rfl, Lib.hid (by have h := HM.out.1.cel; rw [← HN.out, List.take_length] at h; exact h), HW.out⟩
/-! ### Set -/
def stL (L : List Xt) (key val : ByteArray) (k : Nat) (d : Bool) : List Xt := loL (L.take k) key ++ ((if d = true then [⟨key, val⟩] else []) ++ hiL (L.take k) key)
def St (L : List Xt) (key : ByteArray) (k : Nat) (d : Bool) : Prop := (d = true → ∀ p, p ∈ L.drop k → ltS key p.key = true) ∧ (d = false → ∀ p, p ∈ L.take k → ltS p.key key = true)
theorem hi_none {L : List Xt} {key : ByteArray} (h : ∀ p, p ∈ L → ltS p.key key = true) : hiL L key = [] := List.filter_eq_nil_iff.2 fun p hp => by rw [ltS_asymm (h p hp)]; simp
theorem take_one {L : List Xt} {k : Nat} {p : Xt} (hp : L[k]? = some p) : L.take (k + 1) = L.take k ++ [p] := by rw [List.take_add_one, hp]; rfl
theorem drop_one {L : List Xt} {k : Nat} {p : Xt} (hp : L[k]? = some p) : L.drop k = p :: L.drop (k + 1) := by
  have hl := (List.getElem?_eq_some_iff.1 hp).1
  rw [List.drop_eq_getElem_cons hl]
  rw [List.getElem?_eq_getElem hl] at hp
  injection hp with hp
  rw [hp]
theorem up_rest {L : List Xt} {k : Nat} {p : Xt} (h : Up L) (hp : L[k]? = some p) : ∀ q, q ∈ L.drop (k + 1) → ltS p.key q.key = true := by
  have h2 : Up (L.drop k) := List.Pairwise.sublist (List.drop_sublist k L) h
  rw [drop_one hp] at h2
  exact (List.pairwise_cons.1 h2).1
theorem lo_one_yes {p : Xt} {key : ByteArray} (h : ltS p.key key = true) : loL [p] key = [p] := lo_cons_yes [] h
theorem lo_one_no {p : Xt} {key : ByteArray} (h : ltS p.key key = false) : loL [p] key = [] := lo_cons_no [] h
theorem hi_one_yes {p : Xt} {key : ByteArray} (h : ltS key p.key = true) : hiL [p] key = [p] := hi_cons_yes [] h
theorem hi_one_no {p : Xt} {key : ByteArray} (h : ltS key p.key = false) : hiL [p] key = [] := hi_cons_no [] h
/-- The four ways on. -/
theorem st1 {L : List Xt} {key val : ByteArray} {k : Nat} {p : Xt} (hs : St L key k false) (hp : L[k]? = some p) (h : ltS p.key key = true) : St L key (k + 1) false ∧ stL L key val k false ++ [p] = stL L key val (k + 1) false := by
  have h1 := hs.2 rfl
  refine ⟨⟨fun e => (nomatch e), fun _ q hq => ?_⟩, ?_⟩
  · rw [take_one hp] at hq
    rcases List.mem_append.1 hq with hq | hq
    · exact h1 q hq
    · obtain rfl := List.mem_singleton.1 hq; exact h
  · unfold stL
    rw [take_one hp, lo_append, hi_append, hi_none h1, lo_one_yes h, hi_one_no (ltS_asymm h)]
    simp
theorem st2 {L : List Xt} {key val : ByteArray} {k : Nat} {p : Xt} (hu : Up L) (hs : St L key k false) (hp : L[k]? = some p) (h : p.key = key) : St L key (k + 1) true ∧ stL L key val k false ++ [⟨key, val⟩] = stL L key val (k + 1) true := by
  have h1 := hs.2 rfl
  refine ⟨⟨fun _ q hq => by rw [← h]; exact up_rest hu hp q hq, fun e => (nomatch e)⟩, ?_⟩
  have e1 : ltS p.key key = false := by rw [h]; exact ltS_irr _
  have e2 : ltS key p.key = false := by rw [h]; exact ltS_irr _
  unfold stL
  rw [take_one hp, lo_append, hi_append, hi_none h1, lo_one_no e1, hi_one_no e2]
  simp
theorem st3 {L : List Xt} {key val : ByteArray} {k : Nat} {p : Xt} (hu : Up L) (hs : St L key k false) (hp : L[k]? = some p) (h : ltS key p.key = true) : St L key (k + 1) true ∧ (stL L key val k false ++ [⟨key, val⟩]) ++ [p] = stL L key val (k + 1) true := by
  have h1 := hs.2 rfl
  refine ⟨⟨fun _ q hq => ltS_trans h (up_rest hu hp q hq), fun e => (nomatch e)⟩, ?_⟩
  unfold stL
  rw [take_one hp, lo_append, hi_append, hi_none h1, lo_one_no (ltS_asymm h), hi_one_yes h]
  simp
theorem st4 {L : List Xt} {key val : ByteArray} {k : Nat} {p : Xt} (hs : St L key k true) (hp : L[k]? = some p) : ltS key p.key = true ∧ St L key (k + 1) true ∧ stL L key val k true ++ [p] = stL L key val (k + 1) true := by
  have h1 := hs.1 rfl
  rw [drop_one hp] at h1
  have h := h1 p (List.mem_cons_self ..)
  refine ⟨h, ⟨fun _ q hq => h1 q (List.mem_cons_of_mem _ hq), fun e => (nomatch e)⟩, ?_⟩
  unfold stL
  rw [take_one hp, lo_append, hi_append, lo_one_no (ltS_asymm h), hi_one_yes h]
  simp
theorem st_end {L : List Xt} {key val : ByteArray} {n : Nat} (hn : L.length = n) : stL L key val n true = setL L key val := by
  subst hn
  unfold stL setL
  rw [List.take_length]
  rfl
theorem st_end' {L : List Xt} {key val : ByteArray} {n : Nat} (hn : L.length = n) (hs : St L key n false) : stL L key val n false ++ [⟨key, val⟩] = setL L key val := by
  subst hn
  have h1 := hs.2 rfl
  rw [List.take_length] at h1
  unfold stL setL
  rw [List.take_length, hi_none h1]
  simp
set_option maxRecDepth 100000 in
set_option maxHeartbeats 8000000 in
theorem rset_calls (A : Option Addr) (L : List Xt) (c : Nat) (key val : ByteArray) (how : Int) (w : World) (hc : Cel w A (xv L)) (hl : L.length ≤ 1099511627776) (hks : ∀ (k : Nat) q, L[k]? = some q → q.key.size ≤ 1099511627776) (hs : key.size ≤ 1099511627776) (h0 : 0 ≤ how) (h1 : how < 256) :
    Calls Try.prog 10 #[.slice A L.length c, .string key, .string val, .int .u8 how] w (SetPost w L key val how) := by
  have cC := rxmay_calls A L c w hc hl hks
  have cF := fun (W : World) (h : Cel W A (xv L)) => rfind_calls A L c key W h hl
  have cK := fun W => rkeyN_calls key W hs
  obtain ⟨n, hn⟩ : ∃ n, L.length = n := ⟨_, rfl⟩
  have HN := Lib.hid hn
  have HC := Lib.hid hc
  clear hc hks hs
  cases hx : xsB L
  case false =>
    have HV : Hid (setN L key val how = 622) := Lib.hid (by unfold setN; rw [if_pos hx])
    rw [hx] at cC
    rw [hn] at cC ⊢
    have CC := Lib.hid cC
    clear hn cC hx hl cF cK
    go_enter Try.func10, Try.ntmps10
    go_wp2_with (fail)
    refine CC.out.mono ?_
    rintro e w1 ⟨rfl, hb1⟩
    have HB := Lib.hid hb1
    clear hb1
    go_wp2_with (fail)
    go_ret2
    exact .no HV.out (by decide) HB.out
  case true =>
  have HV0 : Hid (setN L key val how = if misN key val how ≠ 0 then misN key val how else barN how (hasB L key) n) := Lib.hid (by unfold setN; rw [if_neg (by rw [hx]; decide), hn])
  have HU := Lib.hid (xsB_up_iff.1 hx).2.1
  have h4 : L.length ≤ 4 := (xsB_up_iff.1 hx).2.2
  rw [hx] at cC
  have CF : Hid (∀ (W : World), Cel W A (xv L) → Calls Try.prog 25 #[.slice A n c, .string key] W fun e w' => ∃ r, e = .returned (.int .i64 r) ∧ Hid (FindI L key r) ∧ ∃ q, w' = W.drewN q) := Lib.hid (by rw [hn] at cF; exact cF)
  rw [hn] at cC hl h4 ⊢
  have CC := Lib.hid cC
  clear hn cC cF hx
  by_cases hh : 2 < how
  case pos =>
    have HV : Hid (setN L key val how = 622) := Lib.hid (by
      have e : misN key val how = 622 := by unfold misN; rw [if_pos hh]
      rw [HV0.out, e]; rfl)
    clear HV0 cK
    go_enter Try.func10, Try.ntmps10
    go_wp2_with (fail)
    refine CC.out.mono ?_
    rintro e w1 ⟨rfl, hb1⟩
    have HB := Lib.hid hb1
    clear hb1
    go_wp2_with (fail)
    go_ret2
    exact .no HV.out (by decide) HB.out
  case neg =>
  by_cases hm : keyN key = 0
  case neg =>
    have HV : Hid (setN L key val how = keyN key) := Lib.hid (by
      have e : misN key val how = keyN key := by unfold misN; rw [if_neg hh, if_pos hm]
      rw [HV0.out, e, if_pos hm])
    have hne : (keyN key == 0) = false := by rw [beq_eq_false_iff_ne]; exact hm
    clear HV0
    generalize keyN key = m at *
    have CK := Lib.hid cK
    have HM := Lib.hid hm
    clear cK hm
    go_enter Try.func10, Try.ntmps10
    go_wp2_with (fail)
    refine CC.out.mono ?_
    rintro e w1 ⟨rfl, hb1⟩
    have HB := Lib.hid hb1
    clear hb1
    go_wp2_with (fail)
    refine (CK.out _).mono ?_
    rintro e w2 ⟨rfl, q, rfl⟩
    go_wp2_with (fail)
    go_ret2
    exact .no HV.out HM.out (below_drewN HB.out _)
  case pos =>
  by_cases h16 : 16 < val.size
  case pos =>
    have HV : Hid (setN L key val how = 634) := Lib.hid (by
      have e : misN key val how = 634 := by unfold misN; rw [if_neg hh, hm, if_neg (by decide), if_pos h16]
      rw [HV0.out, e]; rfl)
    have d1 : decide ((16 : Int) < (val.size : Int)) = true := by rw [decide_eq_true_eq]; omega
    rw [hm] at cK
    have CK := Lib.hid cK
    clear cK hm HV0
    go_enter Try.func10, Try.ntmps10
    go_wp2_with (fail)
    refine CC.out.mono ?_
    rintro e w1 ⟨rfl, hb1⟩
    have HB := Lib.hid hb1
    clear hb1
    go_wp2_with (fail)
    refine (CK.out _).mono ?_
    rintro e w2 ⟨rfl, q, rfl⟩
    go_wp2_with (fail)
    go_ret2
    exact .no HV.out (by decide) (below_drewN HB.out _)
  case neg =>
  have HV : Hid (setN L key val how = barN how (hasB L key) n) := Lib.hid (by
    have e : misN key val how = 0 := by unfold misN; rw [if_neg hh, hm, if_neg (by decide), if_neg h16]
    rw [HV0.out, e]; rfl)
  have d1 : decide ((16 : Int) < (val.size : Int)) = false := by rw [decide_eq_false_iff_not]; omega
  rw [hm] at cK
  have CK := Lib.hid cK
  clear cK hm HV0
  go_enter Try.func10, Try.ntmps10
  go_wp2_with (fail)
  refine CC.out.mono ?_
  rintro e w1 ⟨rfl, hb1⟩
  have HB := Lib.hid hb1
  clear hb1
  go_wp2_with (fail)
  refine (CK.out _).mono ?_
  rintro e w2 ⟨rfl, q, rfl⟩
  go_wp2_with (fail)
  refine (CF.out _ ((HC.out.below HB.out).drewN _)).mono ?_
  rintro e w3 ⟨r, rfl, hF, q2, rfl⟩
  have HB2 : Hid (Below w.heap.size w ((w1.drewN q).drewN q2)) := Lib.hid (below_drewN (below_drewN HB.out _) _)
  generalize (w1.drewN q).drewN q2 = W at *
  clear CC CK CF h16 d1
  obtain ⟨b, hb⟩ : ∃ b, hasB L key = b := ⟨_, rfl⟩
  have HBB := Lib.hid hb
  rw [hb] at HV
  clear hb
  have hr : (b = false ∧ r = -1) ∨ (b = true ∧ 0 ≤ r) := by
    rcases hF.out with ⟨h, e⟩ | ⟨h, k, _, e, _⟩
    · exact .inl ⟨by rw [← HBB.out]; exact h, e⟩
    · exact .inr ⟨by rw [← HBB.out]; exact h, by omega⟩
  clear hF
  obtain ⟨m, hm⟩ : ∃ m, barN how b n = m := ⟨_, rfl⟩
  rw [hm] at HV
  unfold barN at hm
  have hle : how = 0 ∨ how = 1 ∨ how = 2 := by omega
  clear hh h0 h1
  rcases hle with rfl | rfl | rfl
  · rcases hr with ⟨rfl, rfl⟩ | ⟨rfl, hr⟩
    · by_cases h5 : 4 ≤ n
      · simp [h5] at hm
        have h5' : decide ((4 : Int) ≤ (n : Int)) = true := by rw [decide_eq_true_eq]; omega
        subst hm
        go_wp2_with (fail)
        go_ret2
        exact .no HV.out (by decide) HB2.out
      · simp [h5] at hm
        have h5' : decide ((4 : Int) ≤ (n : Int)) = false := by rw [decide_eq_false_iff_not]; omega
        clear h5
        subst hm
        go_wp2_with (fail)
        go_loopw [12, 13, 14] (fun s dd i wr => ∃ (k : Nat) (d : Bool) (B : Option Addr) (cc : Nat) (O : List Xt), i = .int .i64 k ∧ k ≤ n ∧ dd = .bool d ∧ s = .slice B O.length cc ∧ O.length ≤ k + 1 ∧ Hid (d = false → O.length ≤ k) ∧ Hid (O = stL L key val k d) ∧ Hid (St L key k d) ∧ Hid (MineX w wr B O.length cc O) ∧ Hid (Below w.heap.size w wr)) (fun _ _ i _ => n - (intOf i).toNat)
        case atStart => exact ⟨0, false, none, 0, [], rfl, by omega, rfl, rfl, by simp, Lib.hid (fun _ => by simp), Lib.hid rfl, Lib.hid ⟨fun e => (nomatch e), fun _ p hp => by simp at hp⟩, Lib.hid (mine_nil _ _), HB2⟩
        case round =>
          obtain ⟨k, d, B, cc, O, rfl, hk, rfl, rfl, hol, HO1, HO, HST, HMO, HW⟩ := hrel
          obtain ⟨ol, hoe⟩ : ∃ ol, O.length = ol := ⟨_, rfl⟩
          have HOL := Lib.hid hoe
          rw [hoe] at hol ⊢
          clear hoe
          by_cases hkn : k < n
          case neg =>
            obtain rfl : k = n := by omega
            cases d
            case true =>
              have HE : Hid (O = setL L key val) := Lib.hid (HO.out.trans (st_end HN.out))
              go_wp2_with (fail)
              go_ret2
              exact .yes HV.out (by rw [← HE.out, HOL.out]) (by rw [← HE.out]; exact HMO.out) HW.out
            case false =>
              have HE : Hid (O ++ [⟨key, val⟩] = setL L key val) := Lib.hid (by rw [HO.out]; exact st_end' HN.out HST.out)
              have bA : Below wr.heap.size wr (wr.alloc (.cells #[.string key, .string val] 42)) := (Below.refl _ _).alloc (Nat.le_refl _) _
              have HBA := Lib.hid (HW.out.trans (bA.mono HW.out.size))
              have HMA := Lib.hid (HMO.out.on bA)
              have N1 := Lib.hid (cel_one (heap_alloc_new wr (.cells #[.string key, .string val] 42)))
              clear bA
              go_wp2_with (at_builtin; refine wpList_xmore rfl (.tmp 91) (.tmp 95) rfl w B O ol cc HOL.out.symm rfl HMA.out HBA.out.size (some ⟨wr.heap.size, 0, none⟩) [⟨key, val⟩] 1 1 rfl rfl N1.out (by omega) ?_; intro B2 d2 w5 hM5 hb5)
              go_ret2
              exact .yes HV.out (by rw [← HE.out]; simp) (by rw [← HE.out]; exact hM5) (HBA.out.trans hb5)
          case pos =>
          obtain ⟨bb, o, rfl, hbl, hcell⟩ := (HC.out.below HW.out).xt (by rw [HN.out]; omega)
          obtain ⟨p, hp⟩ : ∃ p, L[k]? = some p := ⟨_, List.getElem?_eq_getElem (by rw [HN.out]; omega)⟩
          obtain ⟨f1, f2⟩ := hcell k p hp
          have HP := Lib.hid hp
          clear hcell hp
          cases d
          case true =>
            obtain ⟨s1, s2, s3⟩ := st4 (val := val) HST.out HP.out
            have HS2 := Lib.hid s2
            have HS3 : Hid (O ++ [⟨p.key, p.val⟩] = stL L key val (k + 1) true) := Lib.hid (by rw [HO.out]; exact s3)
            have hne := key_no (ltS_ne' s1)
            clear s1 s2 s3
            generalize p.key = pk at *
            generalize p.val = pv at *
            have bA : Below wr.heap.size wr (wr.alloc (.cells #[.string pk, .string pv] 42)) := (Below.refl _ _).alloc (Nat.le_refl _) _
            have HBA := Lib.hid (HW.out.trans (bA.mono HW.out.size))
            have HMA := Lib.hid (HMO.out.on bA)
            have N1 := Lib.hid (cel_one (heap_alloc_new wr (.cells #[.string pk, .string pv] 42)))
            clear bA
            go_wp2_with (at_builtin; refine wpList_xmore rfl (.tmp 82) (.tmp 87) rfl w B O ol cc HOL.out.symm rfl HMA.out HBA.out.size (some ⟨wr.heap.size, 0, none⟩) [⟨pk, pv⟩] 1 1 rfl rfl N1.out (by omega) ?_; intro B2 d2 w5 hM5 hb5)
            go_roundw
            case rel => exact ⟨k + 1, true, B2, d2, O ++ [⟨pk, pv⟩], by go_num, by omega, rfl, by first | rfl | simp, by have := HOL.out; simp; omega, Lib.hid (fun e => (nomatch e)), HS3, HS2, Lib.hid hM5, Lib.hid (HBA.out.trans hb5)⟩
            case measure => simp [intOf]; omega
          case false =>
          cases hlt : ltS p.key key
          case true =>
            obtain ⟨s2, s3⟩ := st1 (val := val) HST.out HP.out hlt
            have HS2 := Lib.hid s2
            have HS3 : Hid (O ++ [⟨p.key, p.val⟩] = stL L key val (k + 1) false) := Lib.hid (by rw [HO.out]; exact s3)
            have hne := key_no (ltS_ne hlt)
            clear s2 s3
            generalize p.key = pk at *
            generalize p.val = pv at *
            have bA : Below wr.heap.size wr (wr.alloc (.cells #[.string pk, .string pv] 42)) := (Below.refl _ _).alloc (Nat.le_refl _) _
            have HBA := Lib.hid (HW.out.trans (bA.mono HW.out.size))
            have HMA := Lib.hid (HMO.out.on bA)
            have N1 := Lib.hid (cel_one (heap_alloc_new wr (.cells #[.string pk, .string pv] 42)))
            clear bA
            go_wp2_with (at_builtin; refine wpList_xmore rfl (.tmp 82) (.tmp 87) rfl w B O ol cc HOL.out.symm rfl HMA.out HBA.out.size (some ⟨wr.heap.size, 0, none⟩) [⟨pk, pv⟩] 1 1 rfl rfl N1.out (by omega) ?_; intro B2 d2 w5 hM5 hb5)
            go_roundw
            case rel => exact ⟨k + 1, false, B2, d2, O ++ [⟨pk, pv⟩], by go_num, by omega, rfl, by first | rfl | simp, by have := HO1.out rfl; simp; omega, Lib.hid (fun _ => by have := HO1.out rfl; simp; omega), HS3, HS2, Lib.hid hM5, Lib.hid (HBA.out.trans hb5)⟩
            case measure => simp [intOf]; omega
          case false =>
          have bA : Below wr.heap.size wr (wr.alloc (.cells #[.string key, .string val] 42)) := (Below.refl _ _).alloc (Nat.le_refl _) _
          have HBA := Lib.hid (HW.out.trans (bA.mono HW.out.size))
          have HMA := Lib.hid (HMO.out.on bA)
          have N1 := Lib.hid (cel_one (heap_alloc_new wr (.cells #[.string key, .string val] 42)))
          clear bA
          cases hgt : ltS key p.key
          case false =>
            have he : p.key = key := ltS_tri hlt hgt
            obtain ⟨s2, s3⟩ := st2 (val := val) HU.out HST.out HP.out he
            have HS2 := Lib.hid s2
            have HS3 : Hid (O ++ [⟨key, val⟩] = stL L key val (k + 1) true) := Lib.hid (by rw [HO.out]; exact s3)
            have HE2 := Lib.hid he
            rw [he] at hlt f1
            clear s2 s3 he hgt
            go_upto_region 23 with (at_builtin; refine wpList_xmore rfl (.tmp 69) (.tmp 73) rfl w B O ol cc HOL.out.symm rfl HMA.out HBA.out.size (some ⟨wr.heap.size, 0, none⟩) [⟨key, val⟩] 1 1 rfl rfl N1.out (by omega) ?_; intro B2 d2 w5 hM5 hb5)
            have HW5 := Lib.hid (HBA.out.trans hb5)
            obtain ⟨bb', o', e', _, hcell'⟩ := (HC.out.below HW5.out).xt (by rw [HN.out]; omega)
            injection e' with e'
            injection e' with e1' e2'
            subst e1' e2'
            obtain ⟨f3, f4⟩ := hcell' k p HP.out
            rw [HE2.out] at f3
            clear hcell' f4
            go_wp2_with (fail)
            go_roundw
            case rel => exact ⟨k + 1, true, B2, d2, O ++ [⟨key, val⟩], by go_num, by omega, rfl, by first | rfl | simp, by have := HO1.out rfl; simp; omega, Lib.hid (fun e => (nomatch e)), HS3, HS2, Lib.hid hM5, HW5⟩
            case measure => simp [intOf]; omega
          case true =>
            obtain ⟨s2, s3⟩ := st3 (val := val) HU.out HST.out HP.out hgt
            have HS2 := Lib.hid s2
            have HS3 : Hid ((O ++ [⟨key, val⟩]) ++ [⟨p.key, p.val⟩] = stL L key val (k + 1) true) := Lib.hid (by rw [HO.out]; exact s3)
            have hne := key_no (ltS_ne' hgt)
            clear s2 s3 hgt
            go_upto_region 23 with (at_builtin; refine wpList_xmore rfl (.tmp 69) (.tmp 73) rfl w B O ol cc HOL.out.symm rfl HMA.out HBA.out.size (some ⟨wr.heap.size, 0, none⟩) [⟨key, val⟩] 1 1 rfl rfl N1.out (by omega) ?_; intro B2 d2 w5 hM5 hb5)
            have HW5 := Lib.hid (HBA.out.trans hb5)
            obtain ⟨bb', o', e', _, hcell'⟩ := (HC.out.below HW5.out).xt (by rw [HN.out]; omega)
            injection e' with e'
            injection e' with e1' e2'
            subst e1' e2'
            obtain ⟨f3, f4⟩ := hcell' k p HP.out
            clear hcell' f1 f2
            generalize p.key = pk at *
            generalize p.val = pv at *
            have bA5 : Below w5.heap.size w5 (w5.alloc (.cells #[.string pk, .string pv] 42)) := (Below.refl _ _).alloc (Nat.le_refl _) _
            have HBA5 := Lib.hid (HW5.out.trans (bA5.mono HW5.out.size))
            have HMA5 := Lib.hid (hM5.on bA5)
            have N5 := Lib.hid (cel_one (heap_alloc_new w5 (.cells #[.string pk, .string pv] 42)))
            skip
            clear bA5
            go_wp2_with (at_builtin; refine wpList_xmore rfl (.tmp 82) (.tmp 87) rfl w B2 (O ++ [⟨key, val⟩]) _ d2 (by simp) rfl HMA5.out HBA5.out.size (some ⟨w5.heap.size, 0, none⟩) [⟨pk, pv⟩] 1 1 rfl rfl N5.out (by have := HOL.out; first | omega | (simp; omega)) ?_; intro B6 d6 w6 hM6 hb6)
            go_roundw
            case rel => exact ⟨k + 1, true, B6, d6, (O ++ [⟨key, val⟩]) ++ [⟨pk, pv⟩], by go_num, by omega, rfl, by first | rfl | simp, by have := HO1.out rfl; simp; omega, Lib.hid (fun e => (nomatch e)), HS3, HS2, Lib.hid hM6, Lib.hid (HBA5.out.trans hb6)⟩
            case measure => simp [intOf]; omega
    · have hr' : decide (r < 0) = false := by rw [decide_eq_false_iff_not]; omega
      have hr2 : decide (0 ≤ r) = true := by rw [decide_eq_true_eq]; omega
      simp at hm
      subst hm
      go_wp2_with (fail)
      go_loopw [12, 13, 14] (fun s dd i wr => ∃ (k : Nat) (d : Bool) (B : Option Addr) (cc : Nat) (O : List Xt), i = .int .i64 k ∧ k ≤ n ∧ dd = .bool d ∧ s = .slice B O.length cc ∧ O.length ≤ k + 1 ∧ Hid (d = false → O.length ≤ k) ∧ Hid (O = stL L key val k d) ∧ Hid (St L key k d) ∧ Hid (MineX w wr B O.length cc O) ∧ Hid (Below w.heap.size w wr)) (fun _ _ i _ => n - (intOf i).toNat)
      case atStart => exact ⟨0, false, none, 0, [], rfl, by omega, rfl, rfl, by simp, Lib.hid (fun _ => by simp), Lib.hid rfl, Lib.hid ⟨fun e => (nomatch e), fun _ p hp => by simp at hp⟩, Lib.hid (mine_nil _ _), HB2⟩
      case round =>
        obtain ⟨k, d, B, cc, O, rfl, hk, rfl, rfl, hol, HO1, HO, HST, HMO, HW⟩ := hrel
        obtain ⟨ol, hoe⟩ : ∃ ol, O.length = ol := ⟨_, rfl⟩
        have HOL := Lib.hid hoe
        rw [hoe] at hol ⊢
        clear hoe
        by_cases hkn : k < n
        case neg =>
          obtain rfl : k = n := by omega
          cases d
          case true =>
            have HE : Hid (O = setL L key val) := Lib.hid (HO.out.trans (st_end HN.out))
            go_wp2_with (fail)
            go_ret2
            exact .yes HV.out (by rw [← HE.out, HOL.out]) (by rw [← HE.out]; exact HMO.out) HW.out
          case false =>
            have HE : Hid (O ++ [⟨key, val⟩] = setL L key val) := Lib.hid (by rw [HO.out]; exact st_end' HN.out HST.out)
            have bA : Below wr.heap.size wr (wr.alloc (.cells #[.string key, .string val] 42)) := (Below.refl _ _).alloc (Nat.le_refl _) _
            have HBA := Lib.hid (HW.out.trans (bA.mono HW.out.size))
            have HMA := Lib.hid (HMO.out.on bA)
            have N1 := Lib.hid (cel_one (heap_alloc_new wr (.cells #[.string key, .string val] 42)))
            clear bA
            go_wp2_with (at_builtin; refine wpList_xmore rfl (.tmp 91) (.tmp 95) rfl w B O ol cc HOL.out.symm rfl HMA.out HBA.out.size (some ⟨wr.heap.size, 0, none⟩) [⟨key, val⟩] 1 1 rfl rfl N1.out (by omega) ?_; intro B2 d2 w5 hM5 hb5)
            go_ret2
            exact .yes HV.out (by rw [← HE.out]; simp) (by rw [← HE.out]; exact hM5) (HBA.out.trans hb5)
        case pos =>
        obtain ⟨bb, o, rfl, hbl, hcell⟩ := (HC.out.below HW.out).xt (by rw [HN.out]; omega)
        obtain ⟨p, hp⟩ : ∃ p, L[k]? = some p := ⟨_, List.getElem?_eq_getElem (by rw [HN.out]; omega)⟩
        obtain ⟨f1, f2⟩ := hcell k p hp
        have HP := Lib.hid hp
        clear hcell hp
        cases d
        case true =>
          obtain ⟨s1, s2, s3⟩ := st4 (val := val) HST.out HP.out
          have HS2 := Lib.hid s2
          have HS3 : Hid (O ++ [⟨p.key, p.val⟩] = stL L key val (k + 1) true) := Lib.hid (by rw [HO.out]; exact s3)
          have hne := key_no (ltS_ne' s1)
          clear s1 s2 s3
          generalize p.key = pk at *
          generalize p.val = pv at *
          have bA : Below wr.heap.size wr (wr.alloc (.cells #[.string pk, .string pv] 42)) := (Below.refl _ _).alloc (Nat.le_refl _) _
          have HBA := Lib.hid (HW.out.trans (bA.mono HW.out.size))
          have HMA := Lib.hid (HMO.out.on bA)
          have N1 := Lib.hid (cel_one (heap_alloc_new wr (.cells #[.string pk, .string pv] 42)))
          clear bA
          go_wp2_with (at_builtin; refine wpList_xmore rfl (.tmp 82) (.tmp 87) rfl w B O ol cc HOL.out.symm rfl HMA.out HBA.out.size (some ⟨wr.heap.size, 0, none⟩) [⟨pk, pv⟩] 1 1 rfl rfl N1.out (by omega) ?_; intro B2 d2 w5 hM5 hb5)
          go_roundw
          case rel => exact ⟨k + 1, true, B2, d2, O ++ [⟨pk, pv⟩], by go_num, by omega, rfl, by first | rfl | simp, by have := HOL.out; simp; omega, Lib.hid (fun e => (nomatch e)), HS3, HS2, Lib.hid hM5, Lib.hid (HBA.out.trans hb5)⟩
          case measure => simp [intOf]; omega
        case false =>
        cases hlt : ltS p.key key
        case true =>
          obtain ⟨s2, s3⟩ := st1 (val := val) HST.out HP.out hlt
          have HS2 := Lib.hid s2
          have HS3 : Hid (O ++ [⟨p.key, p.val⟩] = stL L key val (k + 1) false) := Lib.hid (by rw [HO.out]; exact s3)
          have hne := key_no (ltS_ne hlt)
          clear s2 s3
          generalize p.key = pk at *
          generalize p.val = pv at *
          have bA : Below wr.heap.size wr (wr.alloc (.cells #[.string pk, .string pv] 42)) := (Below.refl _ _).alloc (Nat.le_refl _) _
          have HBA := Lib.hid (HW.out.trans (bA.mono HW.out.size))
          have HMA := Lib.hid (HMO.out.on bA)
          have N1 := Lib.hid (cel_one (heap_alloc_new wr (.cells #[.string pk, .string pv] 42)))
          clear bA
          go_wp2_with (at_builtin; refine wpList_xmore rfl (.tmp 82) (.tmp 87) rfl w B O ol cc HOL.out.symm rfl HMA.out HBA.out.size (some ⟨wr.heap.size, 0, none⟩) [⟨pk, pv⟩] 1 1 rfl rfl N1.out (by omega) ?_; intro B2 d2 w5 hM5 hb5)
          go_roundw
          case rel => exact ⟨k + 1, false, B2, d2, O ++ [⟨pk, pv⟩], by go_num, by omega, rfl, by first | rfl | simp, by have := HO1.out rfl; simp; omega, Lib.hid (fun _ => by have := HO1.out rfl; simp; omega), HS3, HS2, Lib.hid hM5, Lib.hid (HBA.out.trans hb5)⟩
          case measure => simp [intOf]; omega
        case false =>
        have bA : Below wr.heap.size wr (wr.alloc (.cells #[.string key, .string val] 42)) := (Below.refl _ _).alloc (Nat.le_refl _) _
        have HBA := Lib.hid (HW.out.trans (bA.mono HW.out.size))
        have HMA := Lib.hid (HMO.out.on bA)
        have N1 := Lib.hid (cel_one (heap_alloc_new wr (.cells #[.string key, .string val] 42)))
        clear bA
        cases hgt : ltS key p.key
        case false =>
          have he : p.key = key := ltS_tri hlt hgt
          obtain ⟨s2, s3⟩ := st2 (val := val) HU.out HST.out HP.out he
          have HS2 := Lib.hid s2
          have HS3 : Hid (O ++ [⟨key, val⟩] = stL L key val (k + 1) true) := Lib.hid (by rw [HO.out]; exact s3)
          have HE2 := Lib.hid he
          rw [he] at hlt f1
          clear s2 s3 he hgt
          go_upto_region 23 with (at_builtin; refine wpList_xmore rfl (.tmp 69) (.tmp 73) rfl w B O ol cc HOL.out.symm rfl HMA.out HBA.out.size (some ⟨wr.heap.size, 0, none⟩) [⟨key, val⟩] 1 1 rfl rfl N1.out (by omega) ?_; intro B2 d2 w5 hM5 hb5)
          have HW5 := Lib.hid (HBA.out.trans hb5)
          obtain ⟨bb', o', e', _, hcell'⟩ := (HC.out.below HW5.out).xt (by rw [HN.out]; omega)
          injection e' with e'
          injection e' with e1' e2'
          subst e1' e2'
          obtain ⟨f3, f4⟩ := hcell' k p HP.out
          rw [HE2.out] at f3
          clear hcell' f4
          go_wp2_with (fail)
          go_roundw
          case rel => exact ⟨k + 1, true, B2, d2, O ++ [⟨key, val⟩], by go_num, by omega, rfl, by first | rfl | simp, by have := HO1.out rfl; simp; omega, Lib.hid (fun e => (nomatch e)), HS3, HS2, Lib.hid hM5, HW5⟩
          case measure => simp [intOf]; omega
        case true =>
          obtain ⟨s2, s3⟩ := st3 (val := val) HU.out HST.out HP.out hgt
          have HS2 := Lib.hid s2
          have HS3 : Hid ((O ++ [⟨key, val⟩]) ++ [⟨p.key, p.val⟩] = stL L key val (k + 1) true) := Lib.hid (by rw [HO.out]; exact s3)
          have hne := key_no (ltS_ne' hgt)
          clear s2 s3 hgt
          go_upto_region 23 with (at_builtin; refine wpList_xmore rfl (.tmp 69) (.tmp 73) rfl w B O ol cc HOL.out.symm rfl HMA.out HBA.out.size (some ⟨wr.heap.size, 0, none⟩) [⟨key, val⟩] 1 1 rfl rfl N1.out (by omega) ?_; intro B2 d2 w5 hM5 hb5)
          have HW5 := Lib.hid (HBA.out.trans hb5)
          obtain ⟨bb', o', e', _, hcell'⟩ := (HC.out.below HW5.out).xt (by rw [HN.out]; omega)
          injection e' with e'
          injection e' with e1' e2'
          subst e1' e2'
          obtain ⟨f3, f4⟩ := hcell' k p HP.out
          clear hcell' f1 f2
          generalize p.key = pk at *
          generalize p.val = pv at *
          have bA5 : Below w5.heap.size w5 (w5.alloc (.cells #[.string pk, .string pv] 42)) := (Below.refl _ _).alloc (Nat.le_refl _) _
          have HBA5 := Lib.hid (HW5.out.trans (bA5.mono HW5.out.size))
          have HMA5 := Lib.hid (hM5.on bA5)
          have N5 := Lib.hid (cel_one (heap_alloc_new w5 (.cells #[.string pk, .string pv] 42)))
          skip
          clear bA5
          go_wp2_with (at_builtin; refine wpList_xmore rfl (.tmp 82) (.tmp 87) rfl w B2 (O ++ [⟨key, val⟩]) _ d2 (by simp) rfl HMA5.out HBA5.out.size (some ⟨w5.heap.size, 0, none⟩) [⟨pk, pv⟩] 1 1 rfl rfl N5.out (by have := HOL.out; first | omega | (simp; omega)) ?_; intro B6 d6 w6 hM6 hb6)
          go_roundw
          case rel => exact ⟨k + 1, true, B6, d6, (O ++ [⟨key, val⟩]) ++ [⟨pk, pv⟩], by go_num, by omega, rfl, by first | rfl | simp, by have := HO1.out rfl; simp; omega, Lib.hid (fun e => (nomatch e)), HS3, HS2, Lib.hid hM6, Lib.hid (HBA5.out.trans hb6)⟩
          case measure => simp [intOf]; omega
  · rcases hr with ⟨rfl, rfl⟩ | ⟨rfl, hr⟩
    · by_cases h5 : 4 ≤ n
      · simp [h5] at hm
        have h5' : decide ((4 : Int) ≤ (n : Int)) = true := by rw [decide_eq_true_eq]; omega
        subst hm
        go_wp2_with (fail)
        go_ret2
        exact .no HV.out (by decide) HB2.out
      · simp [h5] at hm
        have h5' : decide ((4 : Int) ≤ (n : Int)) = false := by rw [decide_eq_false_iff_not]; omega
        clear h5
        subst hm
        go_wp2_with (fail)
        go_loopw [12, 13, 14] (fun s dd i wr => ∃ (k : Nat) (d : Bool) (B : Option Addr) (cc : Nat) (O : List Xt), i = .int .i64 k ∧ k ≤ n ∧ dd = .bool d ∧ s = .slice B O.length cc ∧ O.length ≤ k + 1 ∧ Hid (d = false → O.length ≤ k) ∧ Hid (O = stL L key val k d) ∧ Hid (St L key k d) ∧ Hid (MineX w wr B O.length cc O) ∧ Hid (Below w.heap.size w wr)) (fun _ _ i _ => n - (intOf i).toNat)
        case atStart => exact ⟨0, false, none, 0, [], rfl, by omega, rfl, rfl, by simp, Lib.hid (fun _ => by simp), Lib.hid rfl, Lib.hid ⟨fun e => (nomatch e), fun _ p hp => by simp at hp⟩, Lib.hid (mine_nil _ _), HB2⟩
        case round =>
          obtain ⟨k, d, B, cc, O, rfl, hk, rfl, rfl, hol, HO1, HO, HST, HMO, HW⟩ := hrel
          obtain ⟨ol, hoe⟩ : ∃ ol, O.length = ol := ⟨_, rfl⟩
          have HOL := Lib.hid hoe
          rw [hoe] at hol ⊢
          clear hoe
          by_cases hkn : k < n
          case neg =>
            obtain rfl : k = n := by omega
            cases d
            case true =>
              have HE : Hid (O = setL L key val) := Lib.hid (HO.out.trans (st_end HN.out))
              go_wp2_with (fail)
              go_ret2
              exact .yes HV.out (by rw [← HE.out, HOL.out]) (by rw [← HE.out]; exact HMO.out) HW.out
            case false =>
              have HE : Hid (O ++ [⟨key, val⟩] = setL L key val) := Lib.hid (by rw [HO.out]; exact st_end' HN.out HST.out)
              have bA : Below wr.heap.size wr (wr.alloc (.cells #[.string key, .string val] 42)) := (Below.refl _ _).alloc (Nat.le_refl _) _
              have HBA := Lib.hid (HW.out.trans (bA.mono HW.out.size))
              have HMA := Lib.hid (HMO.out.on bA)
              have N1 := Lib.hid (cel_one (heap_alloc_new wr (.cells #[.string key, .string val] 42)))
              clear bA
              go_wp2_with (at_builtin; refine wpList_xmore rfl (.tmp 91) (.tmp 95) rfl w B O ol cc HOL.out.symm rfl HMA.out HBA.out.size (some ⟨wr.heap.size, 0, none⟩) [⟨key, val⟩] 1 1 rfl rfl N1.out (by omega) ?_; intro B2 d2 w5 hM5 hb5)
              go_ret2
              exact .yes HV.out (by rw [← HE.out]; simp) (by rw [← HE.out]; exact hM5) (HBA.out.trans hb5)
          case pos =>
          obtain ⟨bb, o, rfl, hbl, hcell⟩ := (HC.out.below HW.out).xt (by rw [HN.out]; omega)
          obtain ⟨p, hp⟩ : ∃ p, L[k]? = some p := ⟨_, List.getElem?_eq_getElem (by rw [HN.out]; omega)⟩
          obtain ⟨f1, f2⟩ := hcell k p hp
          have HP := Lib.hid hp
          clear hcell hp
          cases d
          case true =>
            obtain ⟨s1, s2, s3⟩ := st4 (val := val) HST.out HP.out
            have HS2 := Lib.hid s2
            have HS3 : Hid (O ++ [⟨p.key, p.val⟩] = stL L key val (k + 1) true) := Lib.hid (by rw [HO.out]; exact s3)
            have hne := key_no (ltS_ne' s1)
            clear s1 s2 s3
            generalize p.key = pk at *
            generalize p.val = pv at *
            have bA : Below wr.heap.size wr (wr.alloc (.cells #[.string pk, .string pv] 42)) := (Below.refl _ _).alloc (Nat.le_refl _) _
            have HBA := Lib.hid (HW.out.trans (bA.mono HW.out.size))
            have HMA := Lib.hid (HMO.out.on bA)
            have N1 := Lib.hid (cel_one (heap_alloc_new wr (.cells #[.string pk, .string pv] 42)))
            clear bA
            go_wp2_with (at_builtin; refine wpList_xmore rfl (.tmp 82) (.tmp 87) rfl w B O ol cc HOL.out.symm rfl HMA.out HBA.out.size (some ⟨wr.heap.size, 0, none⟩) [⟨pk, pv⟩] 1 1 rfl rfl N1.out (by omega) ?_; intro B2 d2 w5 hM5 hb5)
            go_roundw
            case rel => exact ⟨k + 1, true, B2, d2, O ++ [⟨pk, pv⟩], by go_num, by omega, rfl, by first | rfl | simp, by have := HOL.out; simp; omega, Lib.hid (fun e => (nomatch e)), HS3, HS2, Lib.hid hM5, Lib.hid (HBA.out.trans hb5)⟩
            case measure => simp [intOf]; omega
          case false =>
          cases hlt : ltS p.key key
          case true =>
            obtain ⟨s2, s3⟩ := st1 (val := val) HST.out HP.out hlt
            have HS2 := Lib.hid s2
            have HS3 : Hid (O ++ [⟨p.key, p.val⟩] = stL L key val (k + 1) false) := Lib.hid (by rw [HO.out]; exact s3)
            have hne := key_no (ltS_ne hlt)
            clear s2 s3
            generalize p.key = pk at *
            generalize p.val = pv at *
            have bA : Below wr.heap.size wr (wr.alloc (.cells #[.string pk, .string pv] 42)) := (Below.refl _ _).alloc (Nat.le_refl _) _
            have HBA := Lib.hid (HW.out.trans (bA.mono HW.out.size))
            have HMA := Lib.hid (HMO.out.on bA)
            have N1 := Lib.hid (cel_one (heap_alloc_new wr (.cells #[.string pk, .string pv] 42)))
            clear bA
            go_wp2_with (at_builtin; refine wpList_xmore rfl (.tmp 82) (.tmp 87) rfl w B O ol cc HOL.out.symm rfl HMA.out HBA.out.size (some ⟨wr.heap.size, 0, none⟩) [⟨pk, pv⟩] 1 1 rfl rfl N1.out (by omega) ?_; intro B2 d2 w5 hM5 hb5)
            go_roundw
            case rel => exact ⟨k + 1, false, B2, d2, O ++ [⟨pk, pv⟩], by go_num, by omega, rfl, by first | rfl | simp, by have := HO1.out rfl; simp; omega, Lib.hid (fun _ => by have := HO1.out rfl; simp; omega), HS3, HS2, Lib.hid hM5, Lib.hid (HBA.out.trans hb5)⟩
            case measure => simp [intOf]; omega
          case false =>
          have bA : Below wr.heap.size wr (wr.alloc (.cells #[.string key, .string val] 42)) := (Below.refl _ _).alloc (Nat.le_refl _) _
          have HBA := Lib.hid (HW.out.trans (bA.mono HW.out.size))
          have HMA := Lib.hid (HMO.out.on bA)
          have N1 := Lib.hid (cel_one (heap_alloc_new wr (.cells #[.string key, .string val] 42)))
          clear bA
          cases hgt : ltS key p.key
          case false =>
            have he : p.key = key := ltS_tri hlt hgt
            obtain ⟨s2, s3⟩ := st2 (val := val) HU.out HST.out HP.out he
            have HS2 := Lib.hid s2
            have HS3 : Hid (O ++ [⟨key, val⟩] = stL L key val (k + 1) true) := Lib.hid (by rw [HO.out]; exact s3)
            have HE2 := Lib.hid he
            rw [he] at hlt f1
            clear s2 s3 he hgt
            go_upto_region 23 with (at_builtin; refine wpList_xmore rfl (.tmp 69) (.tmp 73) rfl w B O ol cc HOL.out.symm rfl HMA.out HBA.out.size (some ⟨wr.heap.size, 0, none⟩) [⟨key, val⟩] 1 1 rfl rfl N1.out (by omega) ?_; intro B2 d2 w5 hM5 hb5)
            have HW5 := Lib.hid (HBA.out.trans hb5)
            obtain ⟨bb', o', e', _, hcell'⟩ := (HC.out.below HW5.out).xt (by rw [HN.out]; omega)
            injection e' with e'
            injection e' with e1' e2'
            subst e1' e2'
            obtain ⟨f3, f4⟩ := hcell' k p HP.out
            rw [HE2.out] at f3
            clear hcell' f4
            go_wp2_with (fail)
            go_roundw
            case rel => exact ⟨k + 1, true, B2, d2, O ++ [⟨key, val⟩], by go_num, by omega, rfl, by first | rfl | simp, by have := HO1.out rfl; simp; omega, Lib.hid (fun e => (nomatch e)), HS3, HS2, Lib.hid hM5, HW5⟩
            case measure => simp [intOf]; omega
          case true =>
            obtain ⟨s2, s3⟩ := st3 (val := val) HU.out HST.out HP.out hgt
            have HS2 := Lib.hid s2
            have HS3 : Hid ((O ++ [⟨key, val⟩]) ++ [⟨p.key, p.val⟩] = stL L key val (k + 1) true) := Lib.hid (by rw [HO.out]; exact s3)
            have hne := key_no (ltS_ne' hgt)
            clear s2 s3 hgt
            go_upto_region 23 with (at_builtin; refine wpList_xmore rfl (.tmp 69) (.tmp 73) rfl w B O ol cc HOL.out.symm rfl HMA.out HBA.out.size (some ⟨wr.heap.size, 0, none⟩) [⟨key, val⟩] 1 1 rfl rfl N1.out (by omega) ?_; intro B2 d2 w5 hM5 hb5)
            have HW5 := Lib.hid (HBA.out.trans hb5)
            obtain ⟨bb', o', e', _, hcell'⟩ := (HC.out.below HW5.out).xt (by rw [HN.out]; omega)
            injection e' with e'
            injection e' with e1' e2'
            subst e1' e2'
            obtain ⟨f3, f4⟩ := hcell' k p HP.out
            clear hcell' f1 f2
            generalize p.key = pk at *
            generalize p.val = pv at *
            have bA5 : Below w5.heap.size w5 (w5.alloc (.cells #[.string pk, .string pv] 42)) := (Below.refl _ _).alloc (Nat.le_refl _) _
            have HBA5 := Lib.hid (HW5.out.trans (bA5.mono HW5.out.size))
            have HMA5 := Lib.hid (hM5.on bA5)
            have N5 := Lib.hid (cel_one (heap_alloc_new w5 (.cells #[.string pk, .string pv] 42)))
            skip
            clear bA5
            go_wp2_with (at_builtin; refine wpList_xmore rfl (.tmp 82) (.tmp 87) rfl w B2 (O ++ [⟨key, val⟩]) _ d2 (by simp) rfl HMA5.out HBA5.out.size (some ⟨w5.heap.size, 0, none⟩) [⟨pk, pv⟩] 1 1 rfl rfl N5.out (by have := HOL.out; first | omega | (simp; omega)) ?_; intro B6 d6 w6 hM6 hb6)
            go_roundw
            case rel => exact ⟨k + 1, true, B6, d6, (O ++ [⟨key, val⟩]) ++ [⟨pk, pv⟩], by go_num, by omega, rfl, by first | rfl | simp, by have := HO1.out rfl; simp; omega, Lib.hid (fun e => (nomatch e)), HS3, HS2, Lib.hid hM6, Lib.hid (HBA5.out.trans hb6)⟩
            case measure => simp [intOf]; omega
    · have hr' : decide (r < 0) = false := by rw [decide_eq_false_iff_not]; omega
      have hr2 : decide (0 ≤ r) = true := by rw [decide_eq_true_eq]; omega
      simp at hm
      subst hm
      go_wp2_with (fail)
      go_ret2
      exact .no HV.out (by decide) HB2.out
  · rcases hr with ⟨rfl, rfl⟩ | ⟨rfl, hr⟩
    · simp at hm
      subst hm
      go_wp2_with (fail)
      go_ret2
      exact .no HV.out (by decide) HB2.out
    · have hr' : decide (r < 0) = false := by rw [decide_eq_false_iff_not]; omega
      have hr2 : decide (0 ≤ r) = true := by rw [decide_eq_true_eq]; omega
      simp at hm
      subst hm
      go_wp2_with (fail)
      go_loopw [12, 13, 14] (fun s dd i wr => ∃ (k : Nat) (d : Bool) (B : Option Addr) (cc : Nat) (O : List Xt), i = .int .i64 k ∧ k ≤ n ∧ dd = .bool d ∧ s = .slice B O.length cc ∧ O.length ≤ k + 1 ∧ Hid (d = false → O.length ≤ k) ∧ Hid (O = stL L key val k d) ∧ Hid (St L key k d) ∧ Hid (MineX w wr B O.length cc O) ∧ Hid (Below w.heap.size w wr)) (fun _ _ i _ => n - (intOf i).toNat)
      case atStart => exact ⟨0, false, none, 0, [], rfl, by omega, rfl, rfl, by simp, Lib.hid (fun _ => by simp), Lib.hid rfl, Lib.hid ⟨fun e => (nomatch e), fun _ p hp => by simp at hp⟩, Lib.hid (mine_nil _ _), HB2⟩
      case round =>
        obtain ⟨k, d, B, cc, O, rfl, hk, rfl, rfl, hol, HO1, HO, HST, HMO, HW⟩ := hrel
        obtain ⟨ol, hoe⟩ : ∃ ol, O.length = ol := ⟨_, rfl⟩
        have HOL := Lib.hid hoe
        rw [hoe] at hol ⊢
        clear hoe
        by_cases hkn : k < n
        case neg =>
          obtain rfl : k = n := by omega
          cases d
          case true =>
            have HE : Hid (O = setL L key val) := Lib.hid (HO.out.trans (st_end HN.out))
            go_wp2_with (fail)
            go_ret2
            exact .yes HV.out (by rw [← HE.out, HOL.out]) (by rw [← HE.out]; exact HMO.out) HW.out
          case false =>
            have HE : Hid (O ++ [⟨key, val⟩] = setL L key val) := Lib.hid (by rw [HO.out]; exact st_end' HN.out HST.out)
            have bA : Below wr.heap.size wr (wr.alloc (.cells #[.string key, .string val] 42)) := (Below.refl _ _).alloc (Nat.le_refl _) _
            have HBA := Lib.hid (HW.out.trans (bA.mono HW.out.size))
            have HMA := Lib.hid (HMO.out.on bA)
            have N1 := Lib.hid (cel_one (heap_alloc_new wr (.cells #[.string key, .string val] 42)))
            clear bA
            go_wp2_with (at_builtin; refine wpList_xmore rfl (.tmp 91) (.tmp 95) rfl w B O ol cc HOL.out.symm rfl HMA.out HBA.out.size (some ⟨wr.heap.size, 0, none⟩) [⟨key, val⟩] 1 1 rfl rfl N1.out (by omega) ?_; intro B2 d2 w5 hM5 hb5)
            go_ret2
            exact .yes HV.out (by rw [← HE.out]; simp) (by rw [← HE.out]; exact hM5) (HBA.out.trans hb5)
        case pos =>
        obtain ⟨bb, o, rfl, hbl, hcell⟩ := (HC.out.below HW.out).xt (by rw [HN.out]; omega)
        obtain ⟨p, hp⟩ : ∃ p, L[k]? = some p := ⟨_, List.getElem?_eq_getElem (by rw [HN.out]; omega)⟩
        obtain ⟨f1, f2⟩ := hcell k p hp
        have HP := Lib.hid hp
        clear hcell hp
        cases d
        case true =>
          obtain ⟨s1, s2, s3⟩ := st4 (val := val) HST.out HP.out
          have HS2 := Lib.hid s2
          have HS3 : Hid (O ++ [⟨p.key, p.val⟩] = stL L key val (k + 1) true) := Lib.hid (by rw [HO.out]; exact s3)
          have hne := key_no (ltS_ne' s1)
          clear s1 s2 s3
          generalize p.key = pk at *
          generalize p.val = pv at *
          have bA : Below wr.heap.size wr (wr.alloc (.cells #[.string pk, .string pv] 42)) := (Below.refl _ _).alloc (Nat.le_refl _) _
          have HBA := Lib.hid (HW.out.trans (bA.mono HW.out.size))
          have HMA := Lib.hid (HMO.out.on bA)
          have N1 := Lib.hid (cel_one (heap_alloc_new wr (.cells #[.string pk, .string pv] 42)))
          clear bA
          go_wp2_with (at_builtin; refine wpList_xmore rfl (.tmp 82) (.tmp 87) rfl w B O ol cc HOL.out.symm rfl HMA.out HBA.out.size (some ⟨wr.heap.size, 0, none⟩) [⟨pk, pv⟩] 1 1 rfl rfl N1.out (by omega) ?_; intro B2 d2 w5 hM5 hb5)
          go_roundw
          case rel => exact ⟨k + 1, true, B2, d2, O ++ [⟨pk, pv⟩], by go_num, by omega, rfl, by first | rfl | simp, by have := HOL.out; simp; omega, Lib.hid (fun e => (nomatch e)), HS3, HS2, Lib.hid hM5, Lib.hid (HBA.out.trans hb5)⟩
          case measure => simp [intOf]; omega
        case false =>
        cases hlt : ltS p.key key
        case true =>
          obtain ⟨s2, s3⟩ := st1 (val := val) HST.out HP.out hlt
          have HS2 := Lib.hid s2
          have HS3 : Hid (O ++ [⟨p.key, p.val⟩] = stL L key val (k + 1) false) := Lib.hid (by rw [HO.out]; exact s3)
          have hne := key_no (ltS_ne hlt)
          clear s2 s3
          generalize p.key = pk at *
          generalize p.val = pv at *
          have bA : Below wr.heap.size wr (wr.alloc (.cells #[.string pk, .string pv] 42)) := (Below.refl _ _).alloc (Nat.le_refl _) _
          have HBA := Lib.hid (HW.out.trans (bA.mono HW.out.size))
          have HMA := Lib.hid (HMO.out.on bA)
          have N1 := Lib.hid (cel_one (heap_alloc_new wr (.cells #[.string pk, .string pv] 42)))
          clear bA
          go_wp2_with (at_builtin; refine wpList_xmore rfl (.tmp 82) (.tmp 87) rfl w B O ol cc HOL.out.symm rfl HMA.out HBA.out.size (some ⟨wr.heap.size, 0, none⟩) [⟨pk, pv⟩] 1 1 rfl rfl N1.out (by omega) ?_; intro B2 d2 w5 hM5 hb5)
          go_roundw
          case rel => exact ⟨k + 1, false, B2, d2, O ++ [⟨pk, pv⟩], by go_num, by omega, rfl, by first | rfl | simp, by have := HO1.out rfl; simp; omega, Lib.hid (fun _ => by have := HO1.out rfl; simp; omega), HS3, HS2, Lib.hid hM5, Lib.hid (HBA.out.trans hb5)⟩
          case measure => simp [intOf]; omega
        case false =>
        have bA : Below wr.heap.size wr (wr.alloc (.cells #[.string key, .string val] 42)) := (Below.refl _ _).alloc (Nat.le_refl _) _
        have HBA := Lib.hid (HW.out.trans (bA.mono HW.out.size))
        have HMA := Lib.hid (HMO.out.on bA)
        have N1 := Lib.hid (cel_one (heap_alloc_new wr (.cells #[.string key, .string val] 42)))
        clear bA
        cases hgt : ltS key p.key
        case false =>
          have he : p.key = key := ltS_tri hlt hgt
          obtain ⟨s2, s3⟩ := st2 (val := val) HU.out HST.out HP.out he
          have HS2 := Lib.hid s2
          have HS3 : Hid (O ++ [⟨key, val⟩] = stL L key val (k + 1) true) := Lib.hid (by rw [HO.out]; exact s3)
          have HE2 := Lib.hid he
          rw [he] at hlt f1
          clear s2 s3 he hgt
          go_upto_region 23 with (at_builtin; refine wpList_xmore rfl (.tmp 69) (.tmp 73) rfl w B O ol cc HOL.out.symm rfl HMA.out HBA.out.size (some ⟨wr.heap.size, 0, none⟩) [⟨key, val⟩] 1 1 rfl rfl N1.out (by omega) ?_; intro B2 d2 w5 hM5 hb5)
          have HW5 := Lib.hid (HBA.out.trans hb5)
          obtain ⟨bb', o', e', _, hcell'⟩ := (HC.out.below HW5.out).xt (by rw [HN.out]; omega)
          injection e' with e'
          injection e' with e1' e2'
          subst e1' e2'
          obtain ⟨f3, f4⟩ := hcell' k p HP.out
          rw [HE2.out] at f3
          clear hcell' f4
          go_wp2_with (fail)
          go_roundw
          case rel => exact ⟨k + 1, true, B2, d2, O ++ [⟨key, val⟩], by go_num, by omega, rfl, by first | rfl | simp, by have := HO1.out rfl; simp; omega, Lib.hid (fun e => (nomatch e)), HS3, HS2, Lib.hid hM5, HW5⟩
          case measure => simp [intOf]; omega
        case true =>
          obtain ⟨s2, s3⟩ := st3 (val := val) HU.out HST.out HP.out hgt
          have HS2 := Lib.hid s2
          have HS3 : Hid ((O ++ [⟨key, val⟩]) ++ [⟨p.key, p.val⟩] = stL L key val (k + 1) true) := Lib.hid (by rw [HO.out]; exact s3)
          have hne := key_no (ltS_ne' hgt)
          clear s2 s3 hgt
          go_upto_region 23 with (at_builtin; refine wpList_xmore rfl (.tmp 69) (.tmp 73) rfl w B O ol cc HOL.out.symm rfl HMA.out HBA.out.size (some ⟨wr.heap.size, 0, none⟩) [⟨key, val⟩] 1 1 rfl rfl N1.out (by omega) ?_; intro B2 d2 w5 hM5 hb5)
          have HW5 := Lib.hid (HBA.out.trans hb5)
          obtain ⟨bb', o', e', _, hcell'⟩ := (HC.out.below HW5.out).xt (by rw [HN.out]; omega)
          injection e' with e'
          injection e' with e1' e2'
          subst e1' e2'
          obtain ⟨f3, f4⟩ := hcell' k p HP.out
          clear hcell' f1 f2
          generalize p.key = pk at *
          generalize p.val = pv at *
          have bA5 : Below w5.heap.size w5 (w5.alloc (.cells #[.string pk, .string pv] 42)) := (Below.refl _ _).alloc (Nat.le_refl _) _
          have HBA5 := Lib.hid (HW5.out.trans (bA5.mono HW5.out.size))
          have HMA5 := Lib.hid (hM5.on bA5)
          have N5 := Lib.hid (cel_one (heap_alloc_new w5 (.cells #[.string pk, .string pv] 42)))
          skip
          clear bA5
          go_wp2_with (at_builtin; refine wpList_xmore rfl (.tmp 82) (.tmp 87) rfl w B2 (O ++ [⟨key, val⟩]) _ d2 (by simp) rfl HMA5.out HBA5.out.size (some ⟨w5.heap.size, 0, none⟩) [⟨pk, pv⟩] 1 1 rfl rfl N5.out (by have := HOL.out; first | omega | (simp; omega)) ?_; intro B6 d6 w6 hM6 hb6)
          go_roundw
          case rel => exact ⟨k + 1, true, B6, d6, (O ++ [⟨key, val⟩]) ++ [⟨pk, pv⟩], by go_num, by omega, rfl, by first | rfl | simp, by have := HO1.out rfl; simp; omega, Lib.hid (fun e => (nomatch e)), HS3, HS2, Lib.hid hM6, Lib.hid (HBA5.out.trans hb6)⟩
          case measure => simp [intOf]; omega
end Go.Proofs.Ythfafejjjmdpbaa
