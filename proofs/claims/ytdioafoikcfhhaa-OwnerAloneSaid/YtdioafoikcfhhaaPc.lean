/- What the laws share: what they do not look at; answers compared; have the set bits gone? -/
import Derived.Test.YtdioafoikcfhhaaPb
import Derived.Test.YtdioafoikcfhhaaPa
import Derived.Test.YtdioafoikcfhhaaOz
import Derived.Test.YtdioafoikcfhhaaMo
set_option linter.unusedSimpArgs false
set_option linter.unusedVariables false
set_option linter.unusedSimpArgs false
set_option linter.unusedVariables false
namespace Go.Proofs.Ytdioafoikcfhhaa
open Go.RowKit
def largeG (c : Cr) (x : At) : Bool := largeB x || decide (60 < c.gs.length)
set_option maxRecDepth 100000 in
theorem glarge_calls (c : Cr) (A : Option Addr) (n : Nat) (x : At) (p : ALie) (w : World) (hc : CLies w c A) (h : ALies w x p) (hs : ABg x) :
    Calls Try.prog 8 #[c.v A n, x.v p] w fun e w' => e = .returned (.bool (largeG c x)) ∧ Below w.heap.size w w' := by
  obtain ⟨V, hV⟩ : ∃ V, V = (w.alloc (.cells (c.c A n) 25)).alloc (.cells (x.c p) 31) := ⟨_, rfl⟩
  have S0 : Hid (Pb w V c A n x p) := Lib.hid (by rw [hV]; exact Pb.start hc h)
  have HL := Lib.hid (alarge_calls x p V S0.out.al hs)
  have HV0 : Hid (largeG c x = (largeB x || decide (60 < c.gs.length))) := Lib.hid rfl
  have hsm := hc.sm
  obtain ⟨m, hm⟩ : ∃ m, c.gs.length = m := ⟨_, rfl⟩
  rw [hm] at hsm HV0
  have HM := Lib.hid hm
  clear hc h hs hm
  go_enter Try.func8, Try.ntmps8
  go_upto_region 1 with (fail)
  rw [← hV]
  clear hV
  go_wp2_with (refine wpList_load_part rfl 31 (.tmp 3) rfl (w.heap.size + 1) 0 rfl (x.c p).toList _ S0.out.bt.bt0 Try.underlying31 rfl attr_size (x.v p) rfl ?_)
  refine HL.out.mono ?_
  rintro e w1 ⟨rfl, hb⟩
  have S1 := Lib.hid (S0.out.on hb)
  have yc2 := S1.out.cb.c2
  rw [HM.out] at yc2
  clear hb S0 HL
  generalize largeB x = t at *
  cases t
  case true =>
    go_wp2_with (fail)
    go_ret
    exact ⟨by rw [HV0.out]; rfl, S1.out.be⟩
  case false =>
    have HV : Hid (largeG c x = decide (60 < m)) := Lib.hid (by rw [HV0.out]; rfl)
    by_cases h6 : 60 < m
    · have d1 : decide ((60 : Int) < (m : Int)) = true := by rw [decide_eq_true_eq]; omega
      go_wp2_with (fail)
      go_ret
      exact ⟨by rw [HV.out, decide_eq_true h6]; rfl, S1.out.be⟩
    · have d1 : decide ((60 : Int) < (m : Int)) = false := by rw [decide_eq_false_iff_not]; omega
      go_wp2_with (fail)
      go_ret
      exact ⟨by rw [HV.out, decide_eq_false h6]; rfl, S1.out.be⟩
theorem largeG_no {c : Cr} {x : At} (h : largeG c x = false) : ASm x ∧ Ks x ∧ c.gs.length ≤ 60 := by
  unfold largeG at h
  rw [Bool.or_eq_false_iff, decide_eq_false_iff_not] at h
  obtain ⟨h1, h2⟩ := large_no h.1
  exact ⟨h1, fun k q hk => by have := (h2 k q hk).1; omega, by omega⟩
set_option maxRecDepth 100000 in
set_option maxHeartbeats 4000000 in
theorem same_calls (x y : At) (p q : ALie) (m n : Int) (w : World) (h1 : ALies w x p) (h2 : ALies w y q) (hs1 : ASm x) (hs2 : ASm y) :
    Calls Try.prog 15 #[x.v p, .int .i64 m, y.v q, .int .i64 n] w fun e w' => e = .returned (.bool (asameB x y && decide (m = n))) ∧ Below w.heap.size w w' := by
  obtain ⟨V, hV⟩ : ∃ V, V = (w.alloc (.cells (x.c p) 31)).alloc (.cells (y.c q) 31) := ⟨_, rfl⟩
  have S0 : Hid (Two w V x y p q) := Lib.hid (by rw [hV]; exact Two.start h1 h2)
  have HS1 := Lib.hid hs1
  have HS2 := Lib.hid hs2
  have d1 : (m == n) = decide (m = n) := by rw [Bool.eq_iff_iff, beq_iff_eq, decide_eq_true_eq]
  generalize decide (m = n) = r at *
  obtain ⟨rr, hrr⟩ : ∃ rr, (asameB x y && r) = rr := ⟨_, rfl⟩
  rw [hrr]
  have HRR := Lib.hid hrr
  clear h1 h2 hs1 hs2 hrr
  go_enter Try.func15, Try.ntmps15
  go_upto_region 1 with (fail)
  rw [← hV]
  clear hV
  go_wp2_with (first
  | (refine wpList_load_part rfl 31 (.tmp 4) rfl w.heap.size 0 rfl (At.c x p).toList _ (S0.out.one).bt0 Try.underlying31 rfl attr_size (At.v x p) rfl ?_)
  | (refine wpList_load_part rfl 31 (.tmp 6) rfl (w.heap.size + 1) 0 rfl (At.c y q).toList _ (S0.out.two).bt0 Try.underlying31 rfl attr_size (At.v y q) rfl ?_))
  refine (rasame_calls x y p q V S0.out.l1 S0.out.l2 HS1.out HS2.out).mono ?_
  rintro e w1 ⟨rfl, hb⟩
  have S1 := Lib.hid (S0.out.on hb)
  clear hb S0
  cases ht : asameB x y
  case false =>
    have HN : Hid (rr = false) := Lib.hid (by rw [← HRR.out, ht]; rfl)
    clear ht
    go_wp2_with (fail)
    go_ret
    exact ⟨by rw [HN.out]; rfl, S1.out.be⟩
  case true =>
    have HN : Hid (rr = r) := Lib.hid (by rw [← HRR.out, ht]; rfl)
    clear ht
    go_wp2_with (fail)
    go_ret
    exact ⟨by rw [HN.out]; rfl, S1.out.be⟩
/-- The set bits have gone. -/
def cleanB (x : At) : Bool := decide (x.bi &&& 4 = 0) && (decide (x.bi &&& 2 = 0) || decide (cls x.ac &&& 1 = 0))
set_option maxRecDepth 100000 in
set_option maxHeartbeats 4000000 in
theorem clean_calls (x : At) (p : ALie) (w : World) (hx : Nb x.ac) (hbi : x.bi < 256) :
    Calls Try.prog 32 #[x.v p] w fun e w' => e = .returned (.bool (cleanB x)) ∧ Below w.heap.size w w' := by
  obtain ⟨V, hV⟩ : ∃ V, V = w.alloc (.cells (x.c p) 31) := ⟨_, rfl⟩
  have hb : Below w.heap.size w V := by rw [hV]; exact (Below.refl _ _).alloc (Nat.le_refl _) _
  have hz : Bt V w.heap.size x p := by rw [hV]; exact Bt.new w x p
  have HB := Lib.hid hb
  have HZ := Lib.hid hz
  have HX := Lib.hid hx
  have y0 := hz.c0
  obtain ⟨r, hr⟩ : ∃ r, cleanB x = r := ⟨_, rfl⟩
  rw [hr]
  have HR : Hid (r = (decide (x.bi &&& 4 = 0) && (decide (x.bi &&& 2 = 0) || decide (cls x.ac &&& 1 = 0)))) := Lib.hid (by rw [← hr]; rfl)
  have e4 := and8 x.bi 4 hbi (by decide)
  have e2 := and8 x.bi 2 hbi (by decide)
  obtain ⟨a4, h4⟩ : ∃ a, x.bi &&& 4 = a := ⟨_, rfl⟩
  obtain ⟨a2, h2⟩ : ∃ a, x.bi &&& 2 = a := ⟨_, rfl⟩
  rw [h4] at e4 HR
  rw [h2] at e2 HR
  have d4 : bits .and .u8 (x.bi : Int) 4 = (a4 : Int) := e4
  have d2 : bits .and .u8 (x.bi : Int) 2 = (a2 : Int) := e2
  clear hx hz hb h4 h2 hr e4 e2
  go_enter Try.func32, Try.ntmps32
  go_upto_region 1 with (fail)
  rw [← hV]
  clear hV
  by_cases k4 : a4 = 0
  case neg =>
    have f4 : ((a4 : Int) == 0) = false := by rw [beq_eq_false_iff_ne]; omega
    have HN : Hid (r = false) := Lib.hid (by rw [HR.out, decide_eq_false k4]; rfl)
    clear k4
    go_wp2_with (fail)
    go_ret
    exact ⟨by rw [HN.out]; rfl, HB.out⟩
  case pos =>
  have f4 : ((a4 : Int) == 0) = true := by rw [k4]; rfl
  have HR1 : Hid (r = (decide (a2 = 0) || decide (cls x.ac &&& 1 = 0))) := Lib.hid (by rw [HR.out, decide_eq_true k4]; rfl)
  clear k4 HR
  by_cases k2 : a2 = 0
  case pos =>
    have f2 : ((a2 : Int) == 0) = true := by rw [k2]; rfl
    have HN : Hid (r = true) := Lib.hid (by rw [HR1.out, decide_eq_true k2]; rfl)
    clear k2
    go_wp2_with (fail)
    go_ret
    exact ⟨by rw [HN.out]; rfl, HB.out⟩
  case neg =>
  have f2 : ((a2 : Int) == 0) = false := by rw [beq_eq_false_iff_ne]; omega
  have HR2 : Hid (r = decide (cls x.ac &&& 1 = 0)) := Lib.hid (by rw [HR1.out, decide_eq_false k2]; rfl)
  clear k2 HR1
  go_wp2_with (refine wpList_load_part rfl 28 (.tmp 13) rfl w.heap.size 3 rfl (Ac.c x.ac p.p).toList _ (HZ.out.ac) Try.underlying28 rfl acl_size (Ac.v x.ac p.p) rfl ?_)
  refine (cls_calls x.ac p.p V).mono ?_
  rintro e w2 ⟨rfl, hb⟩
  have HB2 := Lib.hid (HB.out.trans (hb.mono HB.out.size))
  have h5 := and1 (cls x.ac) HX.out.cls
  rw [Nat.and_one_is_mod] at HR2
  obtain ⟨cn, hcn⟩ : ∃ cn, cls x.ac = cn := ⟨_, rfl⟩
  rw [hcn] at HR2 h5 ⊢
  clear hb HB y0 hcn
  by_cases k1 : cn % 2 = 0
  case pos =>
    have e5 : bits .and .u8 (cn : Int) 1 = 0 := by rw [h5, k1]; rfl
    have e6 : (cn : Int) % 2 = 0 := by omega
    have HN : Hid (r = true) := Lib.hid (by rw [HR2.out, decide_eq_true k1])
    clear k1 h5
    go_wp2_with (fail)
    go_ret
    exact ⟨by rw [HN.out]; rfl, HB2.out⟩
  case neg =>
    have k3 : cn % 2 = 1 := by omega
    have e5 : bits .and .u8 (cn : Int) 1 = 1 := by rw [h5, k3]; rfl
    have e6 : (cn : Int) % 2 = 1 := by omega
    have HN : Hid (r = false) := Lib.hid (by rw [HR2.out, decide_eq_false k1])
    clear k1 k3 h5
    go_wp2_with (fail)
    go_ret
    exact ⟨by rw [HN.out]; rfl, HB2.out⟩
end Go.Proofs.Ytdioafoikcfhhaa
