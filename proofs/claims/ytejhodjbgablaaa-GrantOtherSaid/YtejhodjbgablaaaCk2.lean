/- Which attributes may be. -/
import Derived.Test.YtejhodjbgablaaaChk
import Derived.Test.YtejhodjbgablaaaAc6
import Derived.Test.YtejhodjbgablaaaAc4
set_option linter.unusedSimpArgs false
set_option linter.unusedVariables false
namespace Go.Proofs.Ytejhodjbgablaaa
open Go.RowKit
/-- May a list for what is begun be, or none? May such attributes be? -/
def defB (h : Bool) (d : Ac) : Bool := mayB d && (h || sameB d acZ)
/-- What Check answers. -/
def ckN (b : Bool) : Int := if b then 0 else 622
def amayB (x : At) : Bool := decide (x.bi ≤ 7) && (mayB x.ac && (defB x.hd x.df && xsB x.xs))
theorem lies_acZ (w : World) : Lies w acZ lieZ := ⟨Cel.nil _ _, Cel.nil _ _⟩
theorem sm_acZ : Sm acZ := ⟨by decide, by decide⟩
theorem sm_of_4 {x : Ac} (h1 : x.us.length ≤ 4) (h2 : x.gs.length ≤ 4) : Sm x := ⟨by omega, by omega⟩
theorem Ab.part {w : World} {b : Nat} {x : Ac} {p : Lie} (h : Ab w b x p) : ∀ j u, (x.c p).toList[j]? = some u → w.cell? ⟨b, 0 + j, none⟩ = some u := fun j u hu => by
  rw [Nat.zero_add, h.cell]
  simpa using hu
set_option maxRecDepth 100000 in
theorem validDef_calls (h : Bool) (d : Ac) (q : Lie) (w : World) (hl : Lies w d q) (hs : Sm d) :
    Calls Try.prog 49 #[.bool h, d.v q] w fun e w' => e = .returned (.bool (defB h d)) ∧ Below w.heap.size w w' := by
  obtain ⟨V, hV⟩ : ∃ V, V = w.alloc (.cells (d.c q) 28) := ⟨_, rfl⟩
  have hb : Below w.heap.size w V := by rw [hV]; exact (Below.refl _ _).alloc (Nat.le_refl _) _
  have hz : Ab V w.heap.size d q := by rw [hV]; exact Ab.new w d q
  have HZ := Lib.hid hz
  have HB := Lib.hid hb
  have HL := Lib.hid (hl.below hb)
  have c := check_calls d q V HL.out hs
  clear hl hz hb
  cases hm : mayB d
  case false =>
    rw [hm] at c
    have HV : Hid (defB h d = false) := Lib.hid (by unfold defB; rw [hm]; rfl)
    have HC := Lib.hid c
    clear hm c
    go_enter Try.func49, Try.ntmps49
    go_upto_region 1 with (fail)
    rw [← hV]
    clear hV
    go_wp2_with (refine wpList_load_part rfl 28 (.tmp 3) rfl w.heap.size 0 rfl (d.c q).toList _ HZ.out.part Try.underlying28 rfl acl_size (d.v q) rfl ?_)
    refine HC.out.mono ?_
    rintro e w1 ⟨rfl, hb1⟩
    have HB1 := Lib.hid (HB.out.trans (hb1.mono HB.out.size))
    clear hb1
    go_wp2_with (fail)
    go_ret
    exact ⟨by rw [HV.out]; rfl, HB1.out⟩
  case true =>
  rw [hm] at c
  have HV : Hid (defB h d = (h || sameB d acZ)) := Lib.hid (by unfold defB; rw [hm, Bool.true_and])
  have HC := Lib.hid c
  have HS := Lib.hid hs
  clear hm c
  cases h
  case true =>
    have HV2 : Hid (defB true d = true) := Lib.hid (by rw [HV.out]; rfl)
    go_enter Try.func49, Try.ntmps49
    go_upto_region 1 with (fail)
    rw [← hV]
    clear hV
    go_wp2_with (refine wpList_load_part rfl 28 (.tmp 3) rfl w.heap.size 0 rfl (d.c q).toList _ HZ.out.part Try.underlying28 rfl acl_size (d.v q) rfl ?_)
    refine HC.out.mono ?_
    rintro e w1 ⟨rfl, hb1⟩
    have HB1 := Lib.hid (HB.out.trans (hb1.mono HB.out.size))
    clear hb1
    go_wp2_with (fail)
    go_ret
    exact ⟨by rw [HV2.out]; rfl, HB1.out⟩
  case false =>
    have HV2 : Hid (defB false d = sameB d acZ) := Lib.hid (by rw [HV.out]; rfl)
    go_enter Try.func49, Try.ntmps49
    go_upto_region 1 with (fail)
    rw [← hV]
    clear hV
    go_wp2_with (refine wpList_load_part rfl 28 (.tmp 3) rfl w.heap.size 0 rfl (d.c q).toList _ HZ.out.part Try.underlying28 rfl acl_size (d.v q) rfl ?_)
    refine HC.out.mono ?_
    rintro e w1 ⟨rfl, hb1⟩
    have HB1 := Lib.hid (HB.out.trans (hb1.mono HB.out.size))
    have HZ1 := Lib.hid (HZ.out.on hb1)
    have HL1 := Lib.hid (HL.out.below hb1)
    clear hb1
    go_wp2_with (refine wpList_load_part rfl 28 (.tmp 3) rfl w.heap.size 0 rfl (d.c q).toList _ HZ1.out.part Try.underlying28 rfl acl_size (d.v q) rfl ?_)
    refine (lsame_calls d acZ q lieZ w1 HL1.out (lies_acZ _) HS.out sm_acZ).mono ?_
    rintro e w2 ⟨rfl, hb2⟩
    have HB2 := Lib.hid (HB1.out.trans (hb2.mono HB1.out.size))
    clear hb2
    go_wp2_with (fail)
    go_ret
    exact ⟨by rw [HV2.out]; rfl, HB2.out⟩
set_option maxRecDepth 100000 in
set_option maxHeartbeats 1000000 in
theorem acheck_calls (x : At) (p : ALie) (w : World) (h : ALies w x p) (hs : ASm x) :
    Calls Try.prog 35 #[x.v p] w fun e w' => e = .returned (.int .i64 (ckN (amayB x))) ∧ Below w.heap.size w w' := by
  obtain ⟨V, hV⟩ : ∃ V, V = w.alloc (.cells (x.c p) 31) := ⟨_, rfl⟩
  have hb : Below w.heap.size w V := by rw [hV]; exact (Below.refl _ _).alloc (Nat.le_refl _) _
  have hz : Bt V w.heap.size x p := by rw [hV]; exact Bt.new w x p
  have HZ := Lib.hid hz
  have HB := Lib.hid hb
  have HL := Lib.hid (h.below hb)
  have HS := Lib.hid hs
  have y0 := hz.c0
  clear h hz hb hs
  by_cases hbi : x.bi ≤ 7
  case neg =>
    have HV : Hid (amayB x = false) := Lib.hid (by unfold amayB; rw [decide_eq_false hbi]; rfl)
    have d0 : decide ((7 : Int) < (x.bi : Int)) = true := by rw [decide_eq_true_eq]; omega
    go_enter Try.func35, Try.ntmps35
    go_upto_region 1 with (fail)
    rw [← hV]
    clear hV
    go_wp2_with (fail)
    go_ret
    exact ⟨by rw [HV.out]; rfl, HB.out⟩
  case pos =>
  have d0 : decide ((7 : Int) < (x.bi : Int)) = false := by rw [decide_eq_false_iff_not]; omega
  have HV0 : Hid (amayB x = (mayB x.ac && (defB x.hd x.df && xsB x.xs))) := Lib.hid (by unfold amayB; rw [decide_eq_true hbi, Bool.true_and])
  clear hbi
  have c := check_calls x.ac p.p V HL.out.ac HS.out.ac
  cases hm : mayB x.ac
  case false =>
    rw [hm] at c
    have HV : Hid (amayB x = false) := Lib.hid (by rw [HV0.out, hm]; rfl)
    have HC := Lib.hid c
    clear hm c
    go_enter Try.func35, Try.ntmps35
    go_upto_region 1 with (fail)
    rw [← hV]
    clear hV
    go_wp2_with (refine wpList_load_part rfl 28 (.tmp 7) rfl w.heap.size 3 rfl (x.ac.c p.p).toList _ HZ.out.ac Try.underlying28 rfl acl_size (x.ac.v p.p) rfl ?_)
    refine HC.out.mono ?_
    rintro e w1 ⟨rfl, hb1⟩
    have HB1 := Lib.hid (HB.out.trans (hb1.mono HB.out.size))
    clear hb1
    go_wp2_with (fail)
    go_ret
    exact ⟨by rw [HV.out]; rfl, HB1.out⟩
  case true =>
  rw [hm] at c
  have HV1 : Hid (amayB x = (defB x.hd x.df && xsB x.xs)) := Lib.hid (by rw [HV0.out, hm, Bool.true_and])
  have HC := Lib.hid c
  clear hm c HV0
  go_enter Try.func35, Try.ntmps35
  go_upto_region 1 with (fail)
  rw [← hV]
  clear hV
  go_wp2_with (refine wpList_load_part rfl 28 (.tmp 7) rfl w.heap.size 3 rfl (x.ac.c p.p).toList _ HZ.out.ac Try.underlying28 rfl acl_size (x.ac.v p.p) rfl ?_)
  refine HC.out.mono ?_
  rintro e w1 ⟨rfl, hb1⟩
  have HB1 := Lib.hid (HB.out.trans (hb1.mono HB.out.size))
  have HZ1 := Lib.hid (HZ.out.on hb1)
  have HL1 := Lib.hid (HL.out.below hb1)
  clear hb1 HC HZ HB HL y0
  have y10 := HZ1.out.c10
  go_wp2_with (refine wpList_load_part rfl 28 (.tmp 15) rfl w.heap.size 11 rfl (x.df.c p.q).toList _ HZ1.out.df Try.underlying28 rfl acl_size (x.df.v p.q) rfl ?_)
  refine (validDef_calls x.hd x.df p.q w1 HL1.out.df HS.out.df).mono ?_
  rintro e w2 ⟨rfl, hb2⟩
  have HB2 := Lib.hid (HB1.out.trans (hb2.mono HB1.out.size))
  have HZ2 := Lib.hid (HZ1.out.on hb2)
  have HL2 := Lib.hid (HL1.out.below hb2)
  clear hb2 HZ1 HB1 HL1 y10
  have y18 := HZ2.out.c18
  cases hd : defB x.hd x.df
  case false =>
    have HV : Hid (amayB x = false) := Lib.hid (by rw [HV1.out, hd]; rfl)
    clear hd
    go_wp2_with (fail)
    go_ret
    exact ⟨by rw [HV.out]; rfl, HB2.out⟩
  case true =>
  have HV : Hid (amayB x = xsB x.xs) := Lib.hid (by rw [HV1.out, hd, Bool.true_and])
  clear hd
  go_wp2_with (fail)
  refine (validXattrs_calls p.X x.xs p.n w2 HL2.out.xs).mono ?_
  rintro e w3 ⟨rfl, hb3⟩
  have HB3 := Lib.hid (HB2.out.trans (hb3.mono HB2.out.size))
  clear hb3
  cases hx : xsB x.xs
  case false =>
    have HV' : Hid (amayB x = false) := Lib.hid (by rw [HV.out, hx])
    clear hx
    go_wp2_with (fail)
    go_ret
    exact ⟨by rw [HV'.out]; rfl, HB3.out⟩
  case true =>
    have HV' : Hid (amayB x = true) := Lib.hid (by rw [HV.out, hx])
    clear hx
    go_wp2_with (fail)
    go_ret
    exact ⟨by rw [HV'.out]; rfl, HB3.out⟩
end Go.Proofs.Ytejhodjbgablaaa
