/- The document's May, its Most. -/
import Derived.Test.YtejhodjbgablaaaGq
set_option linter.unusedSimpArgs false
set_option linter.unusedVariables false
namespace Go.Proofs.Ytejhodjbgablaaa
open Go.RowKit
/-- No key is too long. -/
def Ks (x : At) : Prop := ∀ (k : Nat) q, x.xs[k]? = some q → q.key.size ≤ 1099511627776
set_option maxRecDepth 100000 in
set_option maxHeartbeats 4000000 in
theorem rmayg_calls (c : Cr) (A : Option Addr) (n : Nat) (x : At) (p : ALie) (dir : Bool) (q : Nat) (w : World) (hc : CLies w c A) (h : ALies w x p) (hs : ASm x) (hks : Ks x) (hq : q < 256) :
    Calls Try.prog 15 #[c.v A n, x.v p, .bool dir, .int .u8 (q : Nat)] w fun e w' => e = .returned (.bool (mayR c x dir q)) ∧ Below w.heap.size w w' := by
  obtain ⟨V, hV⟩ : ∃ V, V = (w.alloc (.cells (c.c A n) 25)).alloc (.cells (x.c p) 31) := ⟨_, rfl⟩
  have S0 : Hid (Pb w V c A n x p) := Lib.hid (by rw [hV]; exact Pb.start hc h)
  have HS := Lib.hid hs
  have HK := Lib.hid hks
  have HV0 : Hid (mayR c x dir q = (decide (c.gs.length ≤ 4) && (amayB x && (decide (q ≤ 7) && grantR c x dir q)))) := Lib.hid rfl
  have hsm := hc.sm
  obtain ⟨m, hm⟩ : ∃ m, c.gs.length = m := ⟨_, rfl⟩
  have yc2 := S0.out.cb.c2
  rw [hm] at hsm yc2 HV0
  have HM := Lib.hid hm
  clear hc h hs hks hm
  go_enter Try.func15, Try.ntmps15
  go_upto_region 1 with (fail)
  rw [← hV]
  clear hV
  by_cases h4 : m ≤ 4
  case neg =>
    have d1 : decide ((m : Int) ≤ 4) = false := by rw [decide_eq_false_iff_not]; omega
    have d1' : decide (m ≤ 4) = false := decide_eq_false h4
    have HV : Hid (mayR c x dir q = false) := Lib.hid (by rw [HV0.out, d1']; rfl)
    go_wp2_with (fail)
    go_ret
    exact ⟨by rw [HV.out]; rfl, S0.out.be⟩
  case pos =>
  have d1 : decide ((m : Int) ≤ 4) = true := by rw [decide_eq_true_eq]; omega
  have d1' : decide (m ≤ 4) = true := decide_eq_true h4
  have HV1 : Hid (mayR c x dir q = (amayB x && (decide (q ≤ 7) && grantR c x dir q))) := Lib.hid (by rw [HV0.out, d1']; rfl)
  clear HV0
  go_wp2_with (refine wpList_load_part rfl 31 (.tmp 5) rfl (w.heap.size + 1) 0 rfl (x.c p).toList _ S0.out.bt.bt0 Try.underlying31 rfl attr_size (x.v p) rfl ?_)
  refine (ramay_calls x p V S0.out.al HS.out HK.out).mono ?_
  rintro e w1 ⟨rfl, hb⟩
  have S1 := Lib.hid (S0.out.on hb)
  clear hb S0 yc2
  cases hm : amayB x
  case false =>
    have HV : Hid (mayR c x dir q = false) := Lib.hid (by rw [HV1.out, hm]; rfl)
    clear hm
    go_wp2_with (fail)
    go_ret
    exact ⟨by rw [HV.out]; rfl, S1.out.be⟩
  case true =>
  have HV2 : Hid (mayR c x dir q = (decide (q ≤ 7) && grantR c x dir q)) := Lib.hid (by rw [HV1.out, hm]; rfl)
  have HMY := Lib.hid (amay_parts hm).2.1
  clear HV1 hm
  by_cases h7 : q ≤ 7
  case neg =>
    have d2 : decide ((q : Int) ≤ 7) = false := by rw [decide_eq_false_iff_not]; omega
    have HV : Hid (mayR c x dir q = false) := Lib.hid (by rw [HV2.out, decide_eq_false h7]; rfl)
    go_wp2_with (fail)
    go_ret
    exact ⟨by rw [HV.out]; rfl, S1.out.be⟩
  case pos =>
    have d2 : decide ((q : Int) ≤ 7) = true := by rw [decide_eq_true_eq]; omega
    have HV : Hid (mayR c x dir q = grantR c x dir q) := Lib.hid (by rw [HV2.out, decide_eq_true h7]; rfl)
    clear HV2
    go_wp2_with (first
      | (refine wpList_load_part rfl 25 (.tmp 4) rfl w.heap.size 0 rfl (c.c A n).toList _ S1.out.cb.all Try.underlying25 rfl cred_size (c.v A n) rfl ?_)
      | (refine wpList_load_part rfl 31 (.tmp 5) rfl (w.heap.size + 1) 0 rfl (x.c p).toList _ S1.out.bt.bt0 Try.underlying31 rfl attr_size (x.v p) rfl ?_))
    refine (granted_calls c A n x p dir q w1 S1.out.cl S1.out.al HS.out HMY.out hq).mono ?_
    rintro e w2 ⟨rfl, hb⟩
    have S2 := Lib.hid (S1.out.on hb)
    clear hb S1
    generalize grantR c x dir q = t at *
    go_wp2_with (fail)
    go_ret
    exact ⟨by rw [HV.out]; rfl, S2.out.be⟩
theorem stepR_lt (c : Cr) (x : At) (dir : Bool) (k : Nat) : stepR c x dir k ≤ 2 ^ k := by
  unfold stepR
  split
  · exact Nat.le_refl _
  · exact Nat.zero_le _
set_option maxRecDepth 100000 in
set_option maxHeartbeats 4000000 in
theorem rmost_calls (c : Cr) (A : Option Addr) (n : Nat) (x : At) (p : ALie) (dir : Bool) (w : World) (hc : CLies w c A) (h : ALies w x p) (hs : ASm x) (hks : Ks x) :
    Calls Try.prog 17 #[c.v A n, x.v p, .bool dir] w fun e w' => e = .returned (.int .u8 (mostR c x dir : Nat)) ∧ Below w.heap.size w w' := by
  obtain ⟨V, hV⟩ : ∃ V, V = (w.alloc (.cells (c.c A n) 25)).alloc (.cells (x.c p) 31) := ⟨_, rfl⟩
  have S0 : Hid (Pb w V c A n x p) := Lib.hid (by rw [hV]; exact Pb.start hc h)
  have HS := Lib.hid hs
  have HK := Lib.hid hks
  have HV0 : Hid (mostR c x dir = stepR c x dir 0 + stepR c x dir 1 + stepR c x dir 2) := Lib.hid rfl
  have HC : Hid (∀ (k : Nat) (W : World), k < 3 → Pb w W c A n x p → Calls Try.prog 15 #[c.v A n, x.v p, .bool dir, .int .u8 ((2 ^ k : Nat) : Int)] W fun e w' => e = .returned (.bool (mayR c x dir (2 ^ k))) ∧ Below W.heap.size W w') := Lib.hid (fun k W hk hP => rmayg_calls c A n x p dir (2 ^ k) W hP.cl hP.al HS.out HK.out (by
    obtain rfl | rfl | rfl : k = 0 ∨ k = 1 ∨ k = 2 := by omega
    all_goals decide))
  clear hc h hs hks
  go_enter Try.func17, Try.ntmps17
  go_upto_region 1 with (fail)
  rw [← hV]
  clear hV
  go_wp2_with (fail)
  go_loopw [7, 8] (fun s i wr => ∃ k : Nat, i = .int .i64 k ∧ k ≤ 3 ∧ (∃ t : Nat, s = .int .u8 t ∧ t < 2 ^ k ∧ Hid ((k = 0 → t = 0) ∧ (k = 1 → t = stepR c x dir 0) ∧ (k = 2 → t = stepR c x dir 0 + stepR c x dir 1) ∧ (k = 3 → t = stepR c x dir 0 + stepR c x dir 1 + stepR c x dir 2))) ∧ Hid (Pb w wr c A n x p)) (fun _ i _ => 3 - (intOf i).toNat)
  case atStart => exact ⟨0, rfl, by omega, ⟨0, rfl, by omega, Lib.hid ⟨fun _ => rfl, fun h => by omega, fun h => by omega, fun h => by omega⟩⟩, S0⟩
  case round =>
    obtain ⟨k, rfl, hk, ⟨t, rfl, ht, hT⟩, hP⟩ := hrel
    by_cases hk3 : k < 3
    · obtain rfl | rfl | rfl : k = 0 ∨ k = 1 ∨ k = 2 := by omega
      · have HCK : Hid (Calls Try.prog 15 #[c.v A n, x.v p, .bool dir, .int .u8 1] wr fun e w' => e = .returned (.bool (mayR c x dir 1)) ∧ Below wr.heap.size wr w') := Lib.hid (HC.out 0 wr (by omega) hP.out)
        obtain ⟨t2, ht2⟩ : ∃ t2, t + 1 = t2 := ⟨_, rfl⟩
        have HPP := Lib.hid (hT.out.1 rfl)
        have HT2 := Lib.hid ht2
        have e1 : IntKind.u8.wrap ((t : Int) + 1) = (t2 : Int) := by rw [IntKind.wrap_u8]; omega
        have hst : stepR c x dir 0 = if mayR c x dir 1 then 1 else 0 := rfl
        generalize mayR c x dir 1 = tm at *
        clear ht2
        go_wp2_with (first
          | (refine wpList_load_part rfl 25 (.tmp 3) rfl w.heap.size 0 rfl (c.c A n).toList _ hP.out.cb.all Try.underlying25 rfl cred_size (c.v A n) rfl ?_)
          | (refine wpList_load_part rfl 31 (.tmp 4) rfl (w.heap.size + 1) 0 rfl (x.c p).toList _ hP.out.bt.bt0 Try.underlying31 rfl attr_size (x.v p) rfl ?_))
        refine HCK.out.mono ?_
        rintro e w1 ⟨rfl, hb⟩
        have HP1 := Lib.hid (hP.out.on hb)
        have HST := Lib.hid hst
        have hlt2 : t2 < 2 ^ 1 := by have := HT2.out; omega
        have hlt1 : t < 2 ^ 1 := by omega
        clear hb hP HCK hst HC
        cases tm
        case true =>
          go_wp2_with (fail)
          go_roundw
          case rel =>
            refine ⟨1, by go_num, by omega, ⟨t2, rfl, hlt2, Lib.hid ⟨fun h => by omega, fun h => ?_, fun h => ?_, fun h => ?_⟩⟩, HP1⟩
            all_goals first | omega | (have := HST.out; have := HPP.out; have := HT2.out; simp only [if_true] at *; omega)
          case measure => simp [intOf]
        case false =>
          go_wp2_with (fail)
          go_roundw
          case rel =>
            refine ⟨1, by go_num, by omega, ⟨t, rfl, hlt1, Lib.hid ⟨fun h => by omega, fun h => ?_, fun h => ?_, fun h => ?_⟩⟩, HP1⟩
            all_goals first | omega | (have := HST.out; have := HPP.out; simp only [Bool.false_eq_true, if_false] at *; omega)
          case measure => simp [intOf]
      · have HCK : Hid (Calls Try.prog 15 #[c.v A n, x.v p, .bool dir, .int .u8 2] wr fun e w' => e = .returned (.bool (mayR c x dir 2)) ∧ Below wr.heap.size wr w') := Lib.hid (HC.out 1 wr (by omega) hP.out)
        obtain ⟨t2, ht2⟩ : ∃ t2, t + 2 = t2 := ⟨_, rfl⟩
        have HPP := Lib.hid (hT.out.2.1 rfl)
        have HT2 := Lib.hid ht2
        have e1 : IntKind.u8.wrap ((t : Int) + 2) = (t2 : Int) := by rw [IntKind.wrap_u8]; omega
        have hst : stepR c x dir 1 = if mayR c x dir 2 then 2 else 0 := rfl
        generalize mayR c x dir 2 = tm at *
        clear ht2
        go_wp2_with (first
          | (refine wpList_load_part rfl 25 (.tmp 3) rfl w.heap.size 0 rfl (c.c A n).toList _ hP.out.cb.all Try.underlying25 rfl cred_size (c.v A n) rfl ?_)
          | (refine wpList_load_part rfl 31 (.tmp 4) rfl (w.heap.size + 1) 0 rfl (x.c p).toList _ hP.out.bt.bt0 Try.underlying31 rfl attr_size (x.v p) rfl ?_))
        refine HCK.out.mono ?_
        rintro e w1 ⟨rfl, hb⟩
        have HP1 := Lib.hid (hP.out.on hb)
        have HST := Lib.hid hst
        have hlt2 : t2 < 2 ^ 2 := by have := HT2.out; omega
        have hlt1 : t < 2 ^ 2 := by omega
        clear hb hP HCK hst HC
        cases tm
        case true =>
          go_wp2_with (fail)
          go_roundw
          case rel =>
            refine ⟨2, by go_num, by omega, ⟨t2, rfl, hlt2, Lib.hid ⟨fun h => by omega, fun h => ?_, fun h => ?_, fun h => ?_⟩⟩, HP1⟩
            all_goals first | omega | (have := HST.out; have := HPP.out; have := HT2.out; simp only [if_true] at *; omega)
          case measure => simp [intOf]
        case false =>
          go_wp2_with (fail)
          go_roundw
          case rel =>
            refine ⟨2, by go_num, by omega, ⟨t, rfl, hlt1, Lib.hid ⟨fun h => by omega, fun h => ?_, fun h => ?_, fun h => ?_⟩⟩, HP1⟩
            all_goals first | omega | (have := HST.out; have := HPP.out; simp only [Bool.false_eq_true, if_false] at *; omega)
          case measure => simp [intOf]
      · have HCK : Hid (Calls Try.prog 15 #[c.v A n, x.v p, .bool dir, .int .u8 4] wr fun e w' => e = .returned (.bool (mayR c x dir 4)) ∧ Below wr.heap.size wr w') := Lib.hid (HC.out 2 wr (by omega) hP.out)
        obtain ⟨t2, ht2⟩ : ∃ t2, t + 4 = t2 := ⟨_, rfl⟩
        have HPP := Lib.hid (hT.out.2.2.1 rfl)
        have HT2 := Lib.hid ht2
        have e1 : IntKind.u8.wrap ((t : Int) + 4) = (t2 : Int) := by rw [IntKind.wrap_u8]; omega
        have hst : stepR c x dir 2 = if mayR c x dir 4 then 4 else 0 := rfl
        generalize mayR c x dir 4 = tm at *
        clear ht2
        go_wp2_with (first
          | (refine wpList_load_part rfl 25 (.tmp 3) rfl w.heap.size 0 rfl (c.c A n).toList _ hP.out.cb.all Try.underlying25 rfl cred_size (c.v A n) rfl ?_)
          | (refine wpList_load_part rfl 31 (.tmp 4) rfl (w.heap.size + 1) 0 rfl (x.c p).toList _ hP.out.bt.bt0 Try.underlying31 rfl attr_size (x.v p) rfl ?_))
        refine HCK.out.mono ?_
        rintro e w1 ⟨rfl, hb⟩
        have HP1 := Lib.hid (hP.out.on hb)
        have HST := Lib.hid hst
        have hlt2 : t2 < 2 ^ 3 := by have := HT2.out; omega
        have hlt1 : t < 2 ^ 3 := by omega
        clear hb hP HCK hst HC
        cases tm
        case true =>
          go_wp2_with (fail)
          go_roundw
          case rel =>
            refine ⟨3, by go_num, by omega, ⟨t2, rfl, hlt2, Lib.hid ⟨fun h => by omega, fun h => ?_, fun h => ?_, fun h => ?_⟩⟩, HP1⟩
            all_goals first | omega | (have := HST.out; have := HPP.out; have := HT2.out; simp only [if_true] at *; omega)
          case measure => simp [intOf]
        case false =>
          go_wp2_with (fail)
          go_roundw
          case rel =>
            refine ⟨3, by go_num, by omega, ⟨t, rfl, hlt1, Lib.hid ⟨fun h => by omega, fun h => ?_, fun h => ?_, fun h => ?_⟩⟩, HP1⟩
            all_goals first | omega | (have := HST.out; have := HPP.out; simp only [Bool.false_eq_true, if_false] at *; omega)
          case measure => simp [intOf]
    · obtain rfl : k = 3 := by omega
      have HV : Hid (mostR c x dir = t) := Lib.hid (by rw [HV0.out]; exact (hT.out.2.2.2 rfl).symm)
      go_wp2_with (fail)
      go_ret
      exact ⟨by rw [HV.out]; rfl, hP.out.be⟩
end Go.Proofs.Ytejhodjbgablaaa
