/- A list is cut at a key: strings.Compare, slices.BinarySearchFunc, part. -/
import Derived.Test.YthfafejjjmdpbaaVk
import Derived.Deep.LoopGhost
set_option linter.unusedSimpArgs false
set_option linter.unusedVariables false
namespace Go.Proofs.Ythfafejjjmdpbaa
open Go.RowKit Go.Lib
set_option maxRecDepth 100000 in
theorem cstr_calls (a b : ByteArray) (w : World) :
    Calls Try.prog 42 #[.string a, .string b] w fun e w' => e = .returned (.int .i64 (cmpS a b)) ∧ w = w' := by
  go_enter Try.func42, Try.ntmps42
  go_wp2
  rw [run_callFunc_extern Try.func49 (by kernel_rfl) (by kernel_rfl) (by kernel_rfl) (e := Extern.BytealgCompare.compare) (by kernel_rfl), Lib.run_compareString]
  simp only [Result.andThen]
  rw [Oper.upon_value]
  go_wp2
  go_ret
  exact ⟨rfl, rfl⟩
set_option maxRecDepth 100000 in
theorem scmp_calls (a b : ByteArray) (w : World) :
    Calls Try.prog 33 #[.string a, .string b] w fun e w' => e = .returned (.int .i64 (cmpS a b)) ∧ w = w' := by
  go_enter Try.func33, Try.ntmps33
  go_wp2_with (go_at_call 42; refine (cstr_calls _ _ _).mono ?_; rintro e w' ⟨rfl, rfl⟩)
  go_ret
  exact ⟨rfl, rfl⟩
set_option maxRecDepth 100000 in
theorem pcmp_calls (k v key : ByteArray) (w : World) :
    Calls Try.prog 32 #[.agg #[.string k, .string v], .string key] w fun e w' => e = .returned (.int .i64 (cmpS k key)) ∧ Below w.heap.size w w' := by
  obtain ⟨n, hn⟩ : ∃ n, cmpS k key = n := ⟨_, rfl⟩
  have hS := fun W => scmp_calls k key W
  rw [hn] at hS ⊢
  have HS := Lib.hid hS
  clear hS hn
  go_enter Try.func32, Try.ntmps32
  go_wp2_with (fail)
  refine (HS.out _).mono ?_
  rintro e w' ⟨rfl, rfl⟩
  go_wp2_with (fail)
  go_ret
  exact ⟨rfl, (Below.refl _ _).alloc (Nat.le_refl _) _⟩
/-! ### the search -/
theorem up_le {L : List Xt} (h : Up L) {t u : Nat} {p q : Xt} {key : ByteArray} (htu : t ≤ u) (hp : L[t]? = some p) (hq : L[u]? = some q) (hk : ltS q.key key = true) : ltS p.key key = true := by
  rcases Nat.lt_or_ge t u with hlt | hge
  · unfold Up at h
    rw [List.pairwise_iff_getElem] at h
    have hu := (List.getElem?_eq_some_iff.1 hq).1
    have := h t u (by omega) hu hlt
    rw [List.getElem?_eq_getElem (by omega)] at hp
    rw [List.getElem?_eq_getElem hu] at hq
    injection hp with hp
    injection hq with hq
    rw [hp, hq] at this
    exact ltS_trans this hk
  · obtain rfl : t = u := by omega
    rw [hp] at hq
    cases hq
    exact hk
theorem lo_take {L : List Xt} {key : ByteArray} {i : Nat} (hi : i ≤ L.length) (h1 : ∀ t p, t < i → L[t]? = some p → ltS p.key key = true) (h2 : ∀ t p, i ≤ t → L[t]? = some p → ltS p.key key = false) : loL L key = L.take i := by
  unfold loL
  conv => lhs; rw [← List.take_append_drop i L]
  rw [List.filter_append, List.filter_eq_self.2, List.filter_eq_nil_iff.2, List.append_nil]
  · intro p hp
    obtain ⟨k, hk⟩ := List.getElem?_of_mem hp
    rw [List.getElem?_drop] at hk
    rw [h2 _ p (Nat.le_add_right i k) hk]
    simp
  · intro p hp
    obtain ⟨k, hk⟩ := List.getElem?_of_mem hp
    have hl := (List.getElem?_eq_some_iff.1 hk).1
    rw [List.length_take] at hl
    rw [List.getElem?_take_of_lt (by omega)] at hk
    exact h1 k p (by omega) hk
theorem bs_end {L : List Xt} (h : Up L) {key : ByteArray} {i : Nat} (hi : i ≤ L.length) (h1 : ∀ t p, t < i → L[t]? = some p → ltS p.key key = true) (h2 : ∀ t p, i ≤ t → L[t]? = some p → ltS p.key key = false) :
    (loL L key).length = i ∧ (L.length ≤ i → hasB L key = false) ∧ ∀ p, L[i]? = some p → hasB L key = decide (p.key = key) := by
  have e := lo_take hi h1 h2
  have hl : (loL L key).length = i := by rw [e, List.length_take]; omega
  obtain ⟨e2, _⟩ := parts (k := key) h
  have e3 : ∀ j, L[i + j]? = (smL L key ++ hiL L key)[j]? := fun j => by
    conv => lhs; rw [e2]
    rw [List.getElem?_append_right (by omega), hl]
    congr 1
    omega
  refine ⟨hl, fun hn => ?_, fun p hp => ?_⟩
  · cases hb : hasB L key
    · rfl
    · have := e3 0
      rw [one_part h hb, List.getElem?_eq_none (by omega)] at this
      cases this
  · have := e3 0
    rw [Nat.add_zero, hp] at this
    cases hb : hasB L key
    · rw [hasB_no.1 hb, List.nil_append] at this
      have hm : p ∈ hiL L key := List.mem_of_getElem? this.symm
      rw [decide_eq_false (ltS_ne' (mem_hi.1 hm).2)]
    · rw [one_part h hb] at this
      injection this with this
      rw [this]
      simp
set_option maxRecDepth 100000 in
set_option maxHeartbeats 1000000 in
theorem bsearch_calls (A : Option Addr) (L : List Xt) (c : Nat) (key : ByteArray) (w : World) (hc : Cel w A (xv L)) (hu : Up L) (hl : L.length ≤ 1099511627776) :
    Calls Try.prog 31 #[.slice A L.length c, .string key, .func (.func 32) #[] #[]] w fun e w' =>
      e = .returned (.tuple #[.int .i64 ((loL L key).length : Nat), .bool (hasB L key)]) ∧ Below w.heap.size w w' := by
  obtain ⟨n, hn⟩ : ∃ n, L.length = n := ⟨_, rfl⟩
  have HN := Lib.hid hn
  have HC := Lib.hid hc
  have HU := Lib.hid hu
  rw [hn] at hl ⊢
  clear hn hc hu
  obtain ⟨a0, ha0⟩ : ∃ a0, (loL L key).length = a0 := ⟨_, rfl⟩
  obtain ⟨b0, hb0⟩ : ∃ b0, hasB L key = b0 := ⟨_, rfl⟩
  have HA := Lib.hid ha0
  have HB := Lib.hid hb0
  rw [ha0, hb0]
  clear ha0 hb0
  go_enter Try.func31, Try.ntmps31
  go_wp2_with (fail)
  go_loopg [9, 10] n (fun kx s9 s10 wr => ∃ lo hi : Nat, s9 = .int .i64 lo ∧ s10 = .int .i64 hi ∧ lo ≤ hi ∧ hi ≤ n ∧ hi - lo ≤ kx ∧ Hid (Below w.heap.size w wr) ∧
    Hid (∀ t p, t < lo → L[t]? = some p → ltS p.key key = true) ∧ Hid (∀ t p, hi ≤ t → L[t]? = some p → ltS p.key key = false))
  case atStart => exact ⟨0, n, rfl, rfl, Nat.zero_le _, Nat.le_refl _, by omega, Lib.hid (Below.refl _ _), Lib.hid (fun t p ht => absurd ht (Nat.not_lt_zero _)), Lib.hid (fun t p ht hp => by
    have := (List.getElem?_eq_some_iff.1 hp).1
    rw [HN.out] at this
    omega)⟩
  case round =>
    obtain ⟨lo, hi, rfl, rfl, hlh, hin, hg, HW, I1, I2⟩ := hrel
    by_cases hlt : lo < hi
    · obtain ⟨b, o, rfl, hbl, hcell⟩ := (HC.out.below HW.out).xt (by rw [HN.out]; omega)
      obtain ⟨p, hp⟩ : ∃ p, L[(lo + hi) / 2]? = some p := ⟨_, List.getElem?_eq_getElem (by rw [HN.out]; omega)⟩
      obtain ⟨e1, e2⟩ := hcell _ p hp
      have HP := Lib.hid hp
      clear hcell hp
      have hC := fun W => pcmp_calls p.key p.val key W
      have H1 : Hid (cmpS p.key key < 0 ↔ ltS p.key key = true) := Lib.hid cmpS_lt
      generalize hpk : p.key = pk at *
      generalize hpv : p.val = pv at *
      have HPK := Lib.hid hpk
      generalize cmpS pk key = cm at *
      have HCM := Lib.hid hC
      clear hpk hpv hC
      have hm1 : (lo + hi) / 2 < n := by omega
      have hm2 : lo ≤ (lo + hi) / 2 := by omega
      have hm3 : (lo + hi) / 2 < hi := by omega
      by_cases hcm : cm < 0
      · have hk := H1.out.1 hcm
        have I1' : Hid (∀ t p, t < (lo + hi) / 2 + 1 → L[t]? = some p → ltS p.key key = true) := Lib.hid (fun t q ht hq => up_le HU.out (by omega) hq HP.out (by rw [HPK.out]; exact hk))
        clear hk
        go_wp2_with (fail)
        refine (HCM.out _).mono ?_
        rintro e w' ⟨rfl, hb⟩
        have HW' := Lib.hid (HW.out.trans (hb.mono HW.out.size))
        clear hb
        go_wp2_with (fail)
        go_roundg (hi - ((lo + hi) / 2 + 1))
        case measure => omega
        case rel => exact ⟨(lo + hi) / 2 + 1, hi, by rw [show ((lo : Int) + (hi : Int)) / 2 + 1 = (((lo + hi) / 2 + 1 : Nat) : Int) by omega], rfl, by omega, hin, Nat.le_refl _, HW', I1', I2⟩
      · have hk : ltS pk key = false := by
          cases hx : ltS pk key
          · rfl
          · exact absurd (H1.out.2 hx) hcm
        have I2' : Hid (∀ t p, (lo + hi) / 2 ≤ t → L[t]? = some p → ltS p.key key = false) := Lib.hid (fun t q ht hq => by
          cases hx : ltS q.key key
          · rfl
          · have := up_le HU.out ht HP.out hq hx
            rw [HPK.out, hk] at this
            cases this)
        clear hk
        go_wp2_with (fail)
        refine (HCM.out _).mono ?_
        rintro e w' ⟨rfl, hb⟩
        have HW' := Lib.hid (HW.out.trans (hb.mono HW.out.size))
        clear hb
        go_wp2_with (fail)
        go_roundg ((lo + hi) / 2 - lo)
        case measure => omega
        case rel => exact ⟨lo, (lo + hi) / 2, rfl, by rw [show ((lo : Int) + (hi : Int)) / 2 = (((lo + hi) / 2 : Nat) : Int) by omega], by omega, by omega, Nat.le_refl _, HW', I1, I2'⟩
    · obtain rfl : hi = lo := by omega
      obtain ⟨f1, f2, f3⟩ := bs_end HU.out (by rw [HN.out]; exact hin) I1.out I2.out
      rw [HA.out] at f1
      rw [HB.out, HN.out] at f2
      rw [HB.out] at f3
      subst f1
      by_cases hn : a0 < n
      · obtain ⟨b, o, rfl, hbl, hcell⟩ := (HC.out.below HW.out).xt (by rw [HN.out]; omega)
        obtain ⟨p, hp⟩ : ∃ p, L[a0]? = some p := ⟨_, List.getElem?_eq_getElem (by rw [HN.out]; omega)⟩
        obtain ⟨e1, e2⟩ := hcell _ p hp
        have f4 := f3 p hp
        have hC := fun W => pcmp_calls p.key p.val key W
        have H1 : Hid (cmpS p.key key = 0 ↔ p.key = key) := Lib.hid cmpS_eq
        clear f2 f3 hcell hp HB
        generalize hpk : p.key = pk at *
        generalize hpv : p.val = pv at *
        generalize cmpS pk key = cm at *
        have HCM := Lib.hid hC
        have hb0 : (cm == 0) = b0 := by
          rw [f4, Bool.eq_iff_iff, beq_iff_eq, decide_eq_true_eq]
          exact H1.out
        clear hpk hpv hC f4 H1
        go_wp2_with (fail)
        refine (HCM.out _).mono ?_
        rintro e w' ⟨rfl, hb⟩
        have HW' := Lib.hid (HW.out.trans (hb.mono HW.out.size))
        clear hb
        go_wp2_with (fail)
        go_ret2
        exact ⟨rfl, HW'.out⟩
      · have hb := f2 (by omega)
        subst hb
        clear f2 f3 HB
        go_wp2_with (fail)
        go_ret2
        exact ⟨rfl, HW.out⟩
/-! ### its parts, in memory -/
theorem xv_append (L M : List Xt) : xv (L ++ M) = xv L ++ xv M := by
  induction L with
  | nil => rfl
  | cons p r ih => simp only [List.cons_append, xv, ih]
theorem cel_none {w : World} {L : List Xt} (h : Cel w none (xv L)) : L = [] := by
  cases L with
  | nil => rfl
  | cons x r => obtain ⟨ad, h, _⟩ := h (by rw [xv_length]; simp); cases h
/-- A piece of a row. -/
theorem Cel.piece {w : World} {A : Option Addr} {X Y Z : List Xt} (h : Cel w A (xv (X ++ (Y ++ Z)))) : Cel w (A.map fun ad => ad.add (X.length * 2)) (xv Y) := fun h0 => by
  have hy : 0 < Y.length := by rw [xv_length] at h0; omega
  obtain ⟨b, o, rfl, hlt, hc⟩ := h.at0 (by rw [xv_length, List.length_append, List.length_append]; omega)
  refine ⟨_, rfl, by rw [add_block]; exact hlt, fun j u hu => ?_⟩
  have hj : j < (xv Y).length := (List.getElem?_eq_some_iff.1 hu).1
  have e : (xv (X ++ (Y ++ Z)))[X.length * 2 + j]? = some u := by
    rw [xv_append, xv_append, List.getElem?_append_right (by rw [xv_length]; omega), xv_length, List.getElem?_append_left (by omega)]
    rw [← hu]; congr 1; omega
  have := hc _ _ e
  have ea : ((⟨b, o, none⟩ : Addr).add (X.length * 2)).add j = ⟨b, o + (X.length * 2 + j), none⟩ := by
    unfold Addr.add
    split <;> split <;> simp_all <;> omega
  rw [ea]
  exact this
theorem Cel.front {w : World} {A : Option Addr} {X Y : List Xt} (h : Cel w A (xv (X ++ Y))) : Cel w A (xv X) := fun h0 => by
  obtain ⟨ad, rfl, hlt, hc⟩ := h (by rw [xv_append, List.length_append]; omega)
  refine ⟨ad, rfl, hlt, fun j u hu => hc j u ?_⟩
  rw [xv_append, List.getElem?_append_left (List.getElem?_eq_some_iff.1 hu).1]
  exact hu
theorem Cel.three {w : World} {A : Option Addr} {X Y Z : List Xt} (h : Cel w A (xv (X ++ (Y ++ Z)))) :
    Cel w A (xv X) ∧ Cel w (A.map fun ad => ad.add (X.length * 2)) (xv Y) ∧ Cel w (A.map fun ad => ad.add ((X.length + Y.length) * 2)) (xv Z) := by
  refine ⟨h.front, h.piece, ?_⟩
  have h2 : Cel w A (xv ((X ++ Y) ++ (Z ++ []))) := by rw [List.append_nil, List.append_assoc]; exact h
  have := h2.piece
  rw [List.length_append] at this
  exact this
theorem Cel.empty {w : World} (A : Option Addr) : Cel w A (xv []) := Cel.nil _ _
set_option maxRecDepth 100000 in
theorem part_calls (A : Option Addr) (L : List Xt) (c : Nat) (key : ByteArray) (w : World) (hc : Cel w A (xv L)) (hu : Up L) (hl : L.length ≤ 1099511627776) (hlc : L.length ≤ c) :
    Calls Try.prog 23 #[.slice A L.length c, .string key] w fun e w' => ∃ A1 A2 A3,
      e = .returned (.tuple #[.slice A1 (loL L key).length (loL L key).length, .slice A2 (smL L key).length (smL L key).length, .slice A3 (hiL L key).length (hiL L key).length]) ∧
        Hid (Cel w' A1 (xv (loL L key)) ∧ Cel w' A2 (xv (smL L key)) ∧ Cel w' A3 (xv (hiL L key))) ∧ Below w.heap.size w w' := by
  obtain ⟨e0, h1⟩ := parts (k := key) hu
  have hS := bsearch_calls A L c key w hc hu hl
  have el := congrArg List.length e0
  simp only [List.length_append] at el
  have HC : Hid (Cel w A (xv (loL L key ++ (smL L key ++ hiL L key)))) := Lib.hid (by rw [← e0]; exact hc)
  have HO : Hid (hasB L key = false → smL L key = []) := Lib.hid hasB_no.1
  have HY : Hid (hasB L key = true → smL L key = [⟨key, getV L key⟩]) := Lib.hid (one_part hu)
  generalize hlo : loL L key = X at *
  generalize hsm : smL L key = Y at *
  generalize hhi : hiL L key = Z at *
  clear hc hu e0
  have HX : Hid (∃ x, X.length = x) := Lib.hid ⟨_, rfl⟩
  obtain ⟨x, hx⟩ : ∃ x, X.length = x := ⟨_, rfl⟩
  obtain ⟨y, hy⟩ : ∃ y, Y.length = y := ⟨_, rfl⟩
  obtain ⟨z, hz⟩ : ∃ z, Z.length = z := ⟨_, rfl⟩
  obtain ⟨n, hn⟩ : ∃ n, L.length = n := ⟨_, rfl⟩
  rw [hx, hy, hz, hn] at el
  rw [hn] at hl hlc hS ⊢
  rw [hx] at hS
  rw [hx, hy, hz]
  rw [hy] at h1
  have HLX := Lib.hid hx
  have HLY := Lib.hid hy
  have HLZ := Lib.hid hz
  cases hb : hasB L key
  case false =>
    rw [hb] at hS
    have hy0 : y = 0 := by rw [← hy, HO.out hb]; rfl
    subst hy0
    have hxn : x ≤ n := by omega
    have HE : Hid (z = n - x) := Lib.hid (by omega)
    have HS := Lib.hid hS
    clear hS hlo hsm hhi hx hy hz hn hb HO HY HX h1 el
    go_enter Try.func23, Try.ntmps23
    go_wp2_with (fail)
    refine HS.out.mono ?_
    rintro e w1 ⟨rfl, hb1⟩
    go_wp2_with (fail)
    go_quiet (fail)
    go_wp2_with (fail)
    all_goals
      have hy0 : Y = [] := List.eq_nil_of_length_eq_zero HLY.out
      subst hy0
      obtain ⟨q1, q2, q3⟩ := (HC.out.below hb1).three
      rw [HLX.out, HLY.out, Nat.add_zero] at q3
    · have hz0 : Z = [] := List.eq_nil_of_length_eq_zero (by rw [HLZ.out, HE.out]; omega)
      subst hz0
      obtain rfl : z = 0 := by rw [HE.out]; omega
      exact bodyPost_ret (v := .tuple #[.slice A x x, .slice A 0 0, .slice A 0 0]) (by simp [results, Try.results23, go_sem]) rfl ⟨A, A, A, rfl, Lib.hid ⟨q1, Cel.nil _ _, Cel.nil _ _⟩, below_drewN hb1 _⟩
    · have e := HE.out
      rw [← e]
      exact bodyPost_ret (v := .tuple #[.slice A x x, .slice A 0 0, .slice (Option.map (fun x_1 => x_1.add (x * 2)) A) z z]) (by simp [results, Try.results23, go_sem]) rfl ⟨A, A, Option.map (fun x_1 => x_1.add (x * 2)) A, rfl, Lib.hid ⟨q1.drewN _, Cel.nil _ _, q3.drewN _⟩, below_drewN hb1 _⟩
  case true =>
    rw [hb] at hS
    have hy1 : y = 1 := by rw [← hy, HY.out hb]; rfl
    subst hy1
    have hxn : x + 1 ≤ n := by omega
    have HE : Hid (z = n - (x + 1)) := Lib.hid (by omega)
    have HS := Lib.hid hS
    clear hS hlo hsm hhi hx hy hz hn hb HO HY HX h1 el
    go_enter Try.func23, Try.ntmps23
    go_wp2_with (fail)
    refine HS.out.mono ?_
    rintro e w1 ⟨rfl, hb1⟩
    go_wp2_with (fail)
    go_quiet (fail)
    go_wp2_with (fail)
    all_goals
      obtain ⟨q1, q2, q3⟩ := (HC.out.below hb1).three
      rw [HLX.out] at q2
      rw [HLX.out, HLY.out] at q3
    · have hz0 : Z = [] := List.eq_nil_of_length_eq_zero (by rw [HLZ.out, HE.out]; omega)
      subst hz0
      obtain rfl : z = 0 := by rw [HE.out]; omega
      exact bodyPost_ret (v := .tuple #[.slice A x x, .slice (Option.map (fun x_1 => x_1.add (x * 2)) A) 1 1, .slice A 0 0]) (by simp [results, Try.results23, go_sem]) rfl ⟨A, Option.map (fun x_1 => x_1.add (x * 2)) A, A, rfl, Lib.hid ⟨q1.drewN _, q2.drewN _, Cel.nil _ _⟩, below_drewN hb1 _⟩
    · have e := HE.out
      rw [← e]
      exact bodyPost_ret (v := .tuple #[.slice A x x, .slice (Option.map (fun x_1 => x_1.add (x * 2)) A) 1 1, .slice (Option.map (fun x_1 => x_1.add ((x + 1) * 2)) A) z z]) (by simp [results, Try.results23, go_sem]) rfl ⟨A, Option.map (fun x_1 => x_1.add (x * 2)) A, Option.map (fun x_1 => x_1.add ((x + 1) * 2)) A, rfl, Lib.hid ⟨q1.drewN _, q2.drewN _, q3.drewN _⟩, below_drewN hb1 _⟩
end Go.Proofs.Ythfafejjjmdpbaa
