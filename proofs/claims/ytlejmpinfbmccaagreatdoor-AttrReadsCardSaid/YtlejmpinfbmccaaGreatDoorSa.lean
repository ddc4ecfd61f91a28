/- Which attributes are the same. -/
import Derived.Test.YtlejmpinfbmccaaGreatDoorXs
set_option linter.unusedSimpArgs false
set_option linter.unusedVariables false
set_option linter.unusedSimpArgs false
set_option linter.unusedVariables false
namespace Go.Proofs.YtlejmpinfbmccaaGreatDoor
open Go.RowKit
instance : DecidableEq At := fun x y => if h : x.bi = y.bi ∧ x.ui = y.ui ∧ x.gi = y.gi ∧ x.ac = y.ac ∧ x.hd = y.hd ∧ x.df = y.df ∧ x.xs = y.xs then isTrue (by
    obtain ⟨h1, h2, h3, h4, h5, h6, h7⟩ := h
    cases x; cases y
    simp only at h1 h2 h3 h4 h5 h6 h7
    rw [h1, h2, h3, h4, h5, h6, h7]) else isFalse (by rintro rfl; exact h ⟨rfl, rfl, rfl, rfl, rfl, rfl, rfl⟩)
def asameB (x y : At) : Bool := decide (x = y)
theorem asameB_iff {x y : At} : asameB x y = true ↔ x = y := decide_eq_true_iff
theorem asameB_no {x y : At} (h : x ≠ y) : asameB x y = false := decide_eq_false h
theorem asameB_self (x : At) : asameB x x = true := asameB_iff.2 rfl
theorem at_ext {x y : At} (h1 : x.bi = y.bi) (h2 : x.ui = y.ui) (h3 : x.gi = y.gi) (h4 : x.ac = y.ac) (h5 : x.hd = y.hd) (h6 : x.df = y.df) (h7 : x.xs = y.xs) : x = y := by
  cases x; cases y
  simp only at h1 h2 h3 h4 h5 h6 h7
  rw [h1, h2, h3, h4, h5, h6, h7]
/-- Two attributes in two blocks. -/
structure Two (w wr : World) (x y : At) (p q : ALie) : Prop where
  one : Bt wr w.heap.size x p
  two : Bt wr (w.heap.size + 1) y q
  l1 : ALies wr x p
  l2 : ALies wr y q
  be : Below w.heap.size w wr
theorem Two.on {w wr w' : World} {x y : At} {p q : ALie} (h : Two w wr x y p q) (hb : Below wr.heap.size wr w') : Two w w' x y p q :=
  ⟨h.one.on hb, h.two.on hb, h.l1.below hb, h.l2.below hb, h.be.trans (hb.mono h.be.size)⟩
theorem Two.start {w : World} {x y : At} {p q : ALie} (h1 : ALies w x p) (h2 : ALies w y q) : Two w ((w.alloc (.cells (x.c p) 28)).alloc (.cells (y.c q) 28)) x y p q := by
  have b1 : Below w.heap.size w (w.alloc (.cells (x.c p) 28)) := (Below.refl _ _).alloc (Nat.le_refl _) _
  have b2 : Below (w.alloc (.cells (x.c p) 28)).heap.size (w.alloc (.cells (x.c p) 28)) ((w.alloc (.cells (x.c p) 28)).alloc (.cells (y.c q) 28)) := (Below.refl _ _).alloc (Nat.le_refl _) _
  refine ⟨(Bt.new w x p).on b2, ?_, (h1.below b1).below b2, (h2.below b1).below b2, b1.trans (b2.mono (by simp))⟩
  have h := Bt.new (w.alloc (.cells (x.c p) 28)) y q
  rwa [World.size_alloc] at h
set_option maxRecDepth 100000 in
set_option maxHeartbeats 2000000 in
theorem asame_calls (x y : At) (p q : ALie) (w : World) (h1 : ALies w x p) (h2 : ALies w y q) (hs1 : ASm x) (hs2 : ASm y) :
    Calls Tryz.prog 15 #[x.v p, y.v q] w fun e w' => e = .returned (.bool (asameB x y)) ∧ Below w.heap.size w w' := by
  obtain ⟨V, hV⟩ : ∃ V, V = (w.alloc (.cells (x.c p) 28)).alloc (.cells (y.c q) 28) := ⟨_, rfl⟩
  have S0 : Hid (Two w V x y p q) := Lib.hid (by rw [hV]; exact Two.start h1 h2)
  have HS1 := Lib.hid hs1
  have HS2 := Lib.hid hs2
  clear h1 h2 hs1 hs2
  have y0 := S0.out.one.c0
  have v0 := S0.out.two.c0
  have y1 := S0.out.one.c1
  have v1 := S0.out.two.c1
  have y2 := S0.out.one.c2
  have v2 := S0.out.two.c2
  by_cases ebi : x.bi = y.bi
  case neg =>
    have HV := Lib.hid (asameB_no (x := x) (y := y) (by rintro rfl; exact ebi rfl))
    have dbi : ((x.bi : Int) == (y.bi : Int)) = false := by rw [beq_eq_false_iff_ne]; omega
    clear ebi
    go_enter Tryz.func15, Tryz.ntmps15
    go_upto_region 1 with (fail)
    rw [← hV]
    clear hV
    go_wp2_with (fail)
    go_ret
    exact ⟨by rw [HV.out]; rfl, S0.out.be⟩
  case pos =>
  have dbi : ((x.bi : Int) == (y.bi : Int)) = true := by rw [beq_iff_eq]; omega
  have Ebi := Lib.hid ebi
  clear ebi
  by_cases eui : x.ui = y.ui
  case neg =>
    have HV := Lib.hid (asameB_no (x := x) (y := y) (by rintro rfl; exact eui rfl))
    have dui : ((x.ui : Int) == (y.ui : Int)) = false := by rw [beq_eq_false_iff_ne]; omega
    clear eui
    go_enter Tryz.func15, Tryz.ntmps15
    go_upto_region 1 with (fail)
    rw [← hV]
    clear hV
    go_wp2_with (fail)
    go_ret
    exact ⟨by rw [HV.out]; rfl, S0.out.be⟩
  case pos =>
  have dui : ((x.ui : Int) == (y.ui : Int)) = true := by rw [beq_iff_eq]; omega
  have Eui := Lib.hid eui
  clear eui
  by_cases egi : x.gi = y.gi
  case neg =>
    have HV := Lib.hid (asameB_no (x := x) (y := y) (by rintro rfl; exact egi rfl))
    have dgi : ((x.gi : Int) == (y.gi : Int)) = false := by rw [beq_eq_false_iff_ne]; omega
    clear egi
    go_enter Tryz.func15, Tryz.ntmps15
    go_upto_region 1 with (fail)
    rw [← hV]
    clear hV
    go_wp2_with (fail)
    go_ret
    exact ⟨by rw [HV.out]; rfl, S0.out.be⟩
  case pos =>
  have dgi : ((x.gi : Int) == (y.gi : Int)) = true := by rw [beq_iff_eq]; omega
  have Egi := Lib.hid egi
  clear egi
  go_enter Tryz.func15, Tryz.ntmps15
  go_upto_region 1 with (fail)
  rw [← hV]
  clear hV
  go_wp2_with (first
    | (refine wpList_load_part rfl 25 (.tmp 25) rfl w.heap.size 3 rfl (x.ac.c p.p).toList _ S0.out.one.ac Tryz.underlying25 rfl acl_size (x.ac.v p.p) rfl ?_)
    | (refine wpList_load_part rfl 25 (.tmp 27) rfl (w.heap.size + 1) 3 rfl (y.ac.c q.p).toList _ S0.out.two.ac Tryz.underlying25 rfl acl_size (y.ac.v q.p) rfl ?_))
  refine (lsame_calls x.ac y.ac p.p q.p V S0.out.l1.ac S0.out.l2.ac HS1.out.ac HS2.out.ac).mono ?_
  rintro e w1 ⟨rfl, hb⟩
  have S1 := Lib.hid (S0.out.on hb)
  clear hb y0 y1 y2 v0 v1 v2 S0 dbi dui dgi
  have y10 := S1.out.one.c10
  have v10 := S1.out.two.c10
  by_cases eac : x.ac = y.ac
  case neg =>
    have HV := Lib.hid (asameB_no (x := x) (y := y) (by rintro rfl; exact eac rfl))
    have sd := sameB_no eac
    rw [sd]
    clear eac sd
    go_wp2_with (fail)
    go_ret
    exact ⟨by rw [HV.out]; rfl, S1.out.be⟩
  case pos =>
  have sd := sameB_iff.2 eac
  rw [sd]
  have EAC := Lib.hid eac
  clear eac sd
  by_cases ehd : x.hd = y.hd
  case neg =>
    have HV := Lib.hid (asameB_no (x := x) (y := y) (by rintro rfl; exact ehd rfl))
    have dhd : (x.hd == y.hd) = false := by rw [beq_eq_false_iff_ne]; exact ehd
    clear ehd
    go_wp2_with (fail)
    go_ret
    exact ⟨by rw [HV.out]; rfl, S1.out.be⟩
  case pos =>
  have dhd : (x.hd == y.hd) = true := by rw [beq_iff_eq]; exact ehd
  have EHD := Lib.hid ehd
  clear ehd
  go_wp2_with (first
    | (refine wpList_load_part rfl 25 (.tmp 39) rfl w.heap.size 11 rfl (x.df.c p.q).toList _ S1.out.one.df Tryz.underlying25 rfl acl_size (x.df.v p.q) rfl ?_)
    | (refine wpList_load_part rfl 25 (.tmp 41) rfl (w.heap.size + 1) 11 rfl (y.df.c q.q).toList _ S1.out.two.df Tryz.underlying25 rfl acl_size (y.df.v q.q) rfl ?_))
  refine (lsame_calls x.df y.df p.q q.q w1 S1.out.l1.df S1.out.l2.df HS1.out.df HS2.out.df).mono ?_
  rintro e w2 ⟨rfl, hb⟩
  have S2 := Lib.hid (S1.out.on hb)
  clear hb y10 v10 S1 dhd
  have y18 := S2.out.one.c18
  have v18 := S2.out.two.c18
  by_cases edf : x.df = y.df
  case neg =>
    have HV := Lib.hid (asameB_no (x := x) (y := y) (by rintro rfl; exact edf rfl))
    have sd := sameB_no edf
    rw [sd]
    clear edf sd
    go_wp2_with (fail)
    go_ret
    exact ⟨by rw [HV.out]; rfl, S2.out.be⟩
  case pos =>
  have sd := sameB_iff.2 edf
  rw [sd]
  have HV : Hid (asameB x y = xrowsB x.xs y.xs) := Lib.hid (by
    by_cases ex : x.xs = y.xs
    · rw [xrowsB_iff.2 ex, asameB_iff.2 (at_ext Ebi.out Eui.out Egi.out EAC.out EHD.out edf ex)]
    · rw [xrowsB_no ex, asameB_no (by rintro rfl; exact ex rfl)])
  clear edf sd
  go_wp2_with (fail)
  refine (equalX_calls p.X q.X x.xs y.xs p.n q.n w2 S2.out.l1.xs S2.out.l2.xs HS1.out.xs HS2.out.xs).mono ?_
  rintro e w3 ⟨rfl, m, rfl⟩
  go_wp2_with (fail)
  go_ret
  exact ⟨by rw [HV.out]; rfl, below_drewN S2.out.be m⟩
set_option maxRecDepth 100000 in
set_option maxHeartbeats 2000000 in
theorem rasame_calls (x y : At) (p q : ALie) (w : World) (h1 : ALies w x p) (h2 : ALies w y q) (hs1 : ASm x) (hs2 : ASm y) :
    Calls Tryz.prog 16 #[x.v p, y.v q] w fun e w' => e = .returned (.bool (asameB x y)) ∧ Below w.heap.size w w' := by
  obtain ⟨V, hV⟩ : ∃ V, V = (w.alloc (.cells (x.c p) 28)).alloc (.cells (y.c q) 28) := ⟨_, rfl⟩
  have S0 : Hid (Two w V x y p q) := Lib.hid (by rw [hV]; exact Two.start h1 h2)
  have HS1 := Lib.hid hs1
  have HS2 := Lib.hid hs2
  clear h1 h2 hs1 hs2
  have y0 := S0.out.one.c0
  have v0 := S0.out.two.c0
  have y1 := S0.out.one.c1
  have v1 := S0.out.two.c1
  have y2 := S0.out.one.c2
  have v2 := S0.out.two.c2
  by_cases ebi : x.bi = y.bi
  case neg =>
    have HV := Lib.hid (asameB_no (x := x) (y := y) (by rintro rfl; exact ebi rfl))
    have dbi : ((x.bi : Int) == (y.bi : Int)) = false := by rw [beq_eq_false_iff_ne]; omega
    clear ebi
    go_enter Tryz.func16, Tryz.ntmps16
    go_upto_region 1 with (fail)
    rw [← hV]
    clear hV
    go_wp2_with (fail)
    go_ret
    exact ⟨by rw [HV.out]; rfl, S0.out.be⟩
  case pos =>
  have dbi : ((x.bi : Int) == (y.bi : Int)) = true := by rw [beq_iff_eq]; omega
  have Ebi := Lib.hid ebi
  clear ebi
  by_cases eui : x.ui = y.ui
  case neg =>
    have HV := Lib.hid (asameB_no (x := x) (y := y) (by rintro rfl; exact eui rfl))
    have dui : ((x.ui : Int) == (y.ui : Int)) = false := by rw [beq_eq_false_iff_ne]; omega
    clear eui
    go_enter Tryz.func16, Tryz.ntmps16
    go_upto_region 1 with (fail)
    rw [← hV]
    clear hV
    go_wp2_with (fail)
    go_ret
    exact ⟨by rw [HV.out]; rfl, S0.out.be⟩
  case pos =>
  have dui : ((x.ui : Int) == (y.ui : Int)) = true := by rw [beq_iff_eq]; omega
  have Eui := Lib.hid eui
  clear eui
  by_cases egi : x.gi = y.gi
  case neg =>
    have HV := Lib.hid (asameB_no (x := x) (y := y) (by rintro rfl; exact egi rfl))
    have dgi : ((x.gi : Int) == (y.gi : Int)) = false := by rw [beq_eq_false_iff_ne]; omega
    clear egi
    go_enter Tryz.func16, Tryz.ntmps16
    go_upto_region 1 with (fail)
    rw [← hV]
    clear hV
    go_wp2_with (fail)
    go_ret
    exact ⟨by rw [HV.out]; rfl, S0.out.be⟩
  case pos =>
  have dgi : ((x.gi : Int) == (y.gi : Int)) = true := by rw [beq_iff_eq]; omega
  have Egi := Lib.hid egi
  clear egi
  go_enter Tryz.func16, Tryz.ntmps16
  go_upto_region 1 with (fail)
  rw [← hV]
  clear hV
  go_wp2_with (first
    | (refine wpList_load_part rfl 25 (.tmp 25) rfl w.heap.size 3 rfl (x.ac.c p.p).toList _ S0.out.one.ac Tryz.underlying25 rfl acl_size (x.ac.v p.p) rfl ?_)
    | (refine wpList_load_part rfl 25 (.tmp 27) rfl (w.heap.size + 1) 3 rfl (y.ac.c q.p).toList _ S0.out.two.ac Tryz.underlying25 rfl acl_size (y.ac.v q.p) rfl ?_))
  refine (rlsame_calls x.ac y.ac p.p q.p V S0.out.l1.ac S0.out.l2.ac HS1.out.ac HS2.out.ac).mono ?_
  rintro e w1 ⟨rfl, hb⟩
  have S1 := Lib.hid (S0.out.on hb)
  clear hb y0 y1 y2 v0 v1 v2 S0 dbi dui dgi
  have y10 := S1.out.one.c10
  have v10 := S1.out.two.c10
  by_cases eac : x.ac = y.ac
  case neg =>
    have HV := Lib.hid (asameB_no (x := x) (y := y) (by rintro rfl; exact eac rfl))
    have sd := sameB_no eac
    rw [sd]
    clear eac sd
    go_wp2_with (fail)
    go_ret
    exact ⟨by rw [HV.out]; rfl, S1.out.be⟩
  case pos =>
  have sd := sameB_iff.2 eac
  rw [sd]
  have EAC := Lib.hid eac
  clear eac sd
  by_cases ehd : x.hd = y.hd
  case neg =>
    have HV := Lib.hid (asameB_no (x := x) (y := y) (by rintro rfl; exact ehd rfl))
    have dhd : (x.hd == y.hd) = false := by rw [beq_eq_false_iff_ne]; exact ehd
    clear ehd
    go_wp2_with (fail)
    go_ret
    exact ⟨by rw [HV.out]; rfl, S1.out.be⟩
  case pos =>
  have dhd : (x.hd == y.hd) = true := by rw [beq_iff_eq]; exact ehd
  have EHD := Lib.hid ehd
  clear ehd
  go_wp2_with (first
    | (refine wpList_load_part rfl 25 (.tmp 39) rfl w.heap.size 11 rfl (x.df.c p.q).toList _ S1.out.one.df Tryz.underlying25 rfl acl_size (x.df.v p.q) rfl ?_)
    | (refine wpList_load_part rfl 25 (.tmp 41) rfl (w.heap.size + 1) 11 rfl (y.df.c q.q).toList _ S1.out.two.df Tryz.underlying25 rfl acl_size (y.df.v q.q) rfl ?_))
  refine (rlsame_calls x.df y.df p.q q.q w1 S1.out.l1.df S1.out.l2.df HS1.out.df HS2.out.df).mono ?_
  rintro e w2 ⟨rfl, hb⟩
  have S2 := Lib.hid (S1.out.on hb)
  clear hb y10 v10 S1 dhd
  have y18 := S2.out.one.c18
  have v18 := S2.out.two.c18
  by_cases edf : x.df = y.df
  case neg =>
    have HV := Lib.hid (asameB_no (x := x) (y := y) (by rintro rfl; exact edf rfl))
    have sd := sameB_no edf
    rw [sd]
    clear edf sd
    go_wp2_with (fail)
    go_ret
    exact ⟨by rw [HV.out]; rfl, S2.out.be⟩
  case pos =>
  have sd := sameB_iff.2 edf
  rw [sd]
  have HV : Hid (asameB x y = xrowsB x.xs y.xs) := Lib.hid (by
    by_cases ex : x.xs = y.xs
    · rw [xrowsB_iff.2 ex, asameB_iff.2 (at_ext Ebi.out Eui.out Egi.out EAC.out EHD.out edf ex)]
    · rw [xrowsB_no ex, asameB_no (by rintro rfl; exact ex rfl)])
  clear edf sd
  go_wp2_with (fail)
  refine (samex_calls p.X q.X x.xs y.xs p.n q.n w2 S2.out.l1.xs S2.out.l2.xs HS1.out.xs HS2.out.xs).mono ?_
  rintro e w3 ⟨rfl, m, rfl⟩
  go_wp2_with (fail)
  go_ret
  exact ⟨by rw [HV.out]; rfl, below_drewN S2.out.be m⟩
end Go.Proofs.YtlejmpinfbmccaaGreatDoor
