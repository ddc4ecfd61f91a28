/- Rows of keys and values: slices.Equal, slices.Clone. -/
import Derived.Test.YtgdiiicaljidpaaAtT
import Derived.Test.YtgdiiicaljidpaaAcT
import Derived.Great.BuildSlice
import Derived.Laws.CopyOwn
set_option linter.unusedSimpArgs false
set_option linter.unusedVariables false
set_option linter.unusedSimpArgs false
set_option linter.unusedVariables false
namespace Go.Proofs.Ytgdiiicaljidpaa
open Go.RowKit
end Go.Proofs.Ytgdiiicaljidpaa
/- Which attributes are the same. -/
set_option linter.unusedSimpArgs false
set_option linter.unusedVariables false
namespace Go.Proofs.Ytgdiiicaljidpaa
open Go.RowKit
instance : DecidableEq At := fun x y => if h : x.bi = y.bi ∧ x.ui = y.ui ∧ x.gi = y.gi ∧ x.ac = y.ac ∧ x.hd = y.hd ∧ x.df = y.df ∧ x.xs = y.xs then isTrue (by
    obtain ⟨h1, h2, h3, h4, h5, h6, h7⟩ := h
    cases x; cases y
    simp only at h1 h2 h3 h4 h5 h6 h7
    rw [h1, h2, h3, h4, h5, h6, h7]) else isFalse (by rintro rfl; exact h ⟨rfl, rfl, rfl, rfl, rfl, rfl, rfl⟩)
def asameB (x y : At) : Bool := decide (x = y)
theorem asameB_iff {x y : At} : asameB x y = true ↔ x = y := decide_eq_true_iff
theorem asameB_no {x y : At} (h : x ≠ y) : asameB x y = false := decide_eq_false h
theorem asameB_self (x : At) : asameB x x = true := asameB_iff.2 rfl
theorem at_ext {x y : At} (h1 : x.bi = y.bi) (h2 : x.ui = y.ui) (h3 : x.gi = y.gi) (h4 : x.ac = y.ac) (h5 : x.hd = y.hd) (h6 : x.df = y.df) (h7 : x.xs = y.xs) : x = y := by
  cases x; cases y
  simp only at h1 h2 h3 h4 h5 h6 h7
  rw [h1, h2, h3, h4, h5, h6, h7]
/-- Two attributes in two blocks. -/
structure Two (w wr : World) (x y : At) (p q : ALie) : Prop where
  one : Bt wr w.heap.size x p
  two : Bt wr (w.heap.size + 1) y q
  l1 : ALies wr x p
  l2 : ALies wr y q
  be : Below w.heap.size w wr
theorem Two.on {w wr w' : World} {x y : At} {p q : ALie} (h : Two w wr x y p q) (hb : Below wr.heap.size wr w') : Two w w' x y p q :=
  ⟨h.one.on hb, h.two.on hb, h.l1.below hb, h.l2.below hb, h.be.trans (hb.mono h.be.size)⟩
theorem Two.start {w : World} {x y : At} {p q : ALie} (h1 : ALies w x p) (h2 : ALies w y q) : Two w ((w.alloc (.cells (x.c p) 31)).alloc (.cells (y.c q) 31)) x y p q := by
  have b1 : Below w.heap.size w (w.alloc (.cells (x.c p) 31)) := (Below.refl _ _).alloc (Nat.le_refl _) _
  have b2 : Below (w.alloc (.cells (x.c p) 31)).heap.size (w.alloc (.cells (x.c p) 31)) ((w.alloc (.cells (x.c p) 31)).alloc (.cells (y.c q) 31)) := (Below.refl _ _).alloc (Nat.le_refl _) _
  refine ⟨(Bt.new w x p).on b2, ?_, (h1.below b1).below b2, (h2.below b1).below b2, b1.trans (b2.mono (by simp))⟩
  have h := Bt.new (w.alloc (.cells (x.c p) 31)) y q
  rwa [World.size_alloc] at h
set_option maxRecDepth 100000 in
set_option maxHeartbeats 2000000 in
theorem rasame_calls (x y : At) (p q : ALie) (w : World) (h1 : ALies w x p) (h2 : ALies w y q) (hs1 : ASm x) (hs2 : ASm y) :
    Calls Try.prog 13 #[x.v p, y.v q] w fun e w' => e = .returned (.bool (asameB x y)) ∧ Below w.heap.size w w' := by
  obtain ⟨V, hV⟩ : ∃ V, V = (w.alloc (.cells (x.c p) 31)).alloc (.cells (y.c q) 31) := ⟨_, rfl⟩
  have S0 : Hid (Two w V x y p q) := Lib.hid (by rw [hV]; exact Two.start h1 h2)
  have HS1 := Lib.hid hs1
  have HS2 := Lib.hid hs2
  clear h1 h2 hs1 hs2
  have y0 := S0.out.one.c0
  have v0 := S0.out.two.c0
  have y1 := S0.out.one.c1
  have v1 := S0.out.two.c1
  have y2 := S0.out.one.c2
  have v2 := S0.out.two.c2
  by_cases ebi : x.bi = y.bi
  case neg =>
    have HV := Lib.hid (asameB_no (x := x) (y := y) (by rintro rfl; exact ebi rfl))
    have dbi : ((x.bi : Int) == (y.bi : Int)) = false := by rw [beq_eq_false_iff_ne]; omega
    clear ebi
    go_enter Try.func13, Try.ntmps13
    go_upto_region 1 with (fail)
    rw [← hV]
    clear hV
    go_wp2_with (fail)
    go_ret
    exact ⟨by rw [HV.out]; rfl, S0.out.be⟩
  case pos =>
  have dbi : ((x.bi : Int) == (y.bi : Int)) = true := by rw [beq_iff_eq]; omega
  have Ebi := Lib.hid ebi
  clear ebi
  by_cases eui : x.ui = y.ui
  case neg =>
    have HV := Lib.hid (asameB_no (x := x) (y := y) (by rintro rfl; exact eui rfl))
    have dui : ((x.ui : Int) == (y.ui : Int)) = false := by rw [beq_eq_false_iff_ne]; omega
    clear eui
    go_enter Try.func13, Try.ntmps13
    go_upto_region 1 with (fail)
    rw [← hV]
    clear hV
    go_wp2_with (fail)
    go_ret
    exact ⟨by rw [HV.out]; rfl, S0.out.be⟩
  case pos =>
  have dui : ((x.ui : Int) == (y.ui : Int)) = true := by rw [beq_iff_eq]; omega
  have Eui := Lib.hid eui
  clear eui
  by_cases egi : x.gi = y.gi
  case neg =>
    have HV := Lib.hid (asameB_no (x := x) (y := y) (by rintro rfl; exact egi rfl))
    have dgi : ((x.gi : Int) == (y.gi : Int)) = false := by rw [beq_eq_false_iff_ne]; omega
    clear egi
    go_enter Try.func13, Try.ntmps13
    go_upto_region 1 with (fail)
    rw [← hV]
    clear hV
    go_wp2_with (fail)
    go_ret
    exact ⟨by rw [HV.out]; rfl, S0.out.be⟩
  case pos =>
  have dgi : ((x.gi : Int) == (y.gi : Int)) = true := by rw [beq_iff_eq]; omega
  have Egi := Lib.hid egi
  clear egi
  go_enter Try.func13, Try.ntmps13
  go_upto_region 1 with (fail)
  rw [← hV]
  clear hV
  go_wp2_with (first
    | (refine wpList_load_part rfl 28 (.tmp 25) rfl w.heap.size 3 rfl (x.ac.c p.p).toList _ S0.out.one.ac Try.underlying28 rfl acl_size (x.ac.v p.p) rfl ?_)
    | (refine wpList_load_part rfl 28 (.tmp 27) rfl (w.heap.size + 1) 3 rfl (y.ac.c q.p).toList _ S0.out.two.ac Try.underlying28 rfl acl_size (y.ac.v q.p) rfl ?_))
  refine (rlsame_calls x.ac y.ac p.p q.p V S0.out.l1.ac S0.out.l2.ac HS1.out.ac HS2.out.ac).mono ?_
  rintro e w1 ⟨rfl, hb⟩
  have S1 := Lib.hid (S0.out.on hb)
  clear hb y0 y1 y2 v0 v1 v2 S0 dbi dui dgi
  have y10 := S1.out.one.c10
  have v10 := S1.out.two.c10
  by_cases eac : x.ac = y.ac
  case neg =>
    have HV := Lib.hid (asameB_no (x := x) (y := y) (by rintro rfl; exact eac rfl))
    have sd := sameB_no eac
    rw [sd]
    clear eac sd
    go_wp2_with (fail)
    go_ret
    exact ⟨by rw [HV.out]; rfl, S1.out.be⟩
  case pos =>
  have sd := sameB_iff.2 eac
  rw [sd]
  have EAC := Lib.hid eac
  clear eac sd
  by_cases ehd : x.hd = y.hd
  case neg =>
    have HV := Lib.hid (asameB_no (x := x) (y := y) (by rintro rfl; exact ehd rfl))
    have dhd : (x.hd == y.hd) = false := by rw [beq_eq_false_iff_ne]; exact ehd
    clear ehd
    go_wp2_with (fail)
    go_ret
    exact ⟨by rw [HV.out]; rfl, S1.out.be⟩
  case pos =>
  have dhd : (x.hd == y.hd) = true := by rw [beq_iff_eq]; exact ehd
  have EHD := Lib.hid ehd
  clear ehd
  go_wp2_with (first
    | (refine wpList_load_part rfl 28 (.tmp 39) rfl w.heap.size 11 rfl (x.df.c p.q).toList _ S1.out.one.df Try.underlying28 rfl acl_size (x.df.v p.q) rfl ?_)
    | (refine wpList_load_part rfl 28 (.tmp 41) rfl (w.heap.size + 1) 11 rfl (y.df.c q.q).toList _ S1.out.two.df Try.underlying28 rfl acl_size (y.df.v q.q) rfl ?_))
  refine (rlsame_calls x.df y.df p.q q.q w1 S1.out.l1.df S1.out.l2.df HS1.out.df HS2.out.df).mono ?_
  rintro e w2 ⟨rfl, hb⟩
  have S2 := Lib.hid (S1.out.on hb)
  clear hb y10 v10 S1 dhd
  have y18 := S2.out.one.c18
  have v18 := S2.out.two.c18
  by_cases edf : x.df = y.df
  case neg =>
    have HV := Lib.hid (asameB_no (x := x) (y := y) (by rintro rfl; exact edf rfl))
    have sd := sameB_no edf
    rw [sd]
    clear edf sd
    go_wp2_with (fail)
    go_ret
    exact ⟨by rw [HV.out]; rfl, S2.out.be⟩
  case pos =>
  have sd := sameB_iff.2 edf
  rw [sd]
  have HV : Hid (asameB x y = xrowsB x.xs y.xs) := Lib.hid (by
    by_cases ex : x.xs = y.xs
    · rw [xrowsB_iff.2 ex, asameB_iff.2 (at_ext Ebi.out Eui.out Egi.out EAC.out EHD.out edf ex)]
    · rw [xrowsB_no ex, asameB_no (by rintro rfl; exact ex rfl)])
  clear edf sd
  go_wp2_with (fail)
  refine (samex_calls p.X q.X x.xs y.xs p.n q.n w2 S2.out.l1.xs S2.out.l2.xs HS1.out.xs HS2.out.xs).mono ?_
  rintro e w3 ⟨rfl, m, rfl⟩
  go_wp2_with (fail)
  go_ret
  exact ⟨by rw [HV.out]; rfl, below_drewN S2.out.be m⟩
end Go.Proofs.Ytgdiiicaljidpaa
/- Copies of attributes. -/
set_option linter.unusedSimpArgs false
set_option linter.unusedVariables false
namespace Go.Proofs.Ytgdiiicaljidpaa
open Go.RowKit
/-- The rows of a copy (made at w): the call's own, apart. -/
structure ACopied (w w' : World) (x : At) (p : ALie) : Prop where
  ac : Copied w w' x.ac p.p
  df : Copied w w' x.df p.q
  xs : MineX w w' p.X x.xs.length p.n x.xs
  ug : ∀ a b, p.p.A = some a → p.q.B = some b → a.block ≠ b.block
  ux : ∀ a b, p.p.A = some a → p.X = some b → a.block ≠ b.block
  gx : ∀ a b, p.q.B = some a → p.X = some b → a.block ≠ b.block
theorem ACopied.lies {w w' : World} {x : At} {p : ALie} (h : ACopied w w' x p) : ALies w' x p := ⟨h.ac.lies, h.df.lies, h.xs.cel⟩
theorem ACopied.on {w w' w'' : World} {x : At} {p : ALie} (h : ACopied w w' x p) (hb : Below w'.heap.size w' w'') : ACopied w w'' x p := ⟨h.ac.on hb, h.df.on hb, h.xs.on hb, h.ug, h.ux, h.gx⟩
theorem ACopied.from {v w w' : World} {x : At} {p : ALie} (h : ACopied w w' x p) (hb : v.heap.size ≤ w.heap.size) : ACopied v w' x p := ⟨h.ac.from hb, h.df.from hb, h.xs.from hb, h.ug, h.ux, h.gx⟩
abbrev setAc (w : World) (b : Nat) (x : At) (l : Lie) : World := (((((((w.setCell ⟨b, 3, none⟩ (.int .u8 (x.ac.ow : Nat))).setCell ⟨b, 4, none⟩ (.int .u8 (x.ac.gr : Nat))).setCell ⟨b, 5, none⟩ (.int .u8 (x.ac.ot : Nat))).setCell ⟨b, 6, none⟩ (.slice l.A x.ac.us.length l.c)).setCell ⟨b, 7, none⟩ (.slice l.B x.ac.gs.length l.d)).setCell ⟨b, 8, none⟩ (.bool x.ac.hm)).setCell ⟨b, 9, none⟩ (.int .u8 (x.ac.ms : Nat)))
abbrev setDf (w : World) (b : Nat) (x : At) (l : Lie) : World := (((((((w.setCell ⟨b, 11, none⟩ (.int .u8 (x.df.ow : Nat))).setCell ⟨b, 12, none⟩ (.int .u8 (x.df.gr : Nat))).setCell ⟨b, 13, none⟩ (.int .u8 (x.df.ot : Nat))).setCell ⟨b, 14, none⟩ (.slice l.A x.df.us.length l.c)).setCell ⟨b, 15, none⟩ (.slice l.B x.df.gs.length l.d)).setCell ⟨b, 16, none⟩ (.bool x.df.hm)).setCell ⟨b, 17, none⟩ (.int .u8 (x.df.ms : Nat)))
section
variable {w w' : World} {b : Nat} {x : At} {p : ALie}
theorem Bt.setAc (h : Bt w b x p) (l : Lie) : Bt (Go.Proofs.Ytgdiiicaljidpaa.setAc w b x l) b x ⟨l, p.q, p.X, p.n⟩ := by
  have h0 := set_cell h 3 (.int .u8 (x.ac.ow : Nat))
  have h1 := set_cell h0 4 (.int .u8 (x.ac.gr : Nat))
  have h2 := set_cell h1 5 (.int .u8 (x.ac.ot : Nat))
  have h3 := set_cell h2 6 (.slice l.A x.ac.us.length l.c)
  have h4 := set_cell h3 7 (.slice l.B x.ac.gs.length l.d)
  have h5 := set_cell h4 8 (.bool x.ac.hm)
  have h6 := set_cell h5 9 (.int .u8 (x.ac.ms : Nat))
  unfold Bt
  simpa using h6
theorem only_setAc {a : World} (h : Only (fun j => j = b) a w) (x : At) (l : Lie) : Only (fun j => j = b) a (Go.Proofs.Ytgdiiicaljidpaa.setAc w b x l) :=
  ((((((h.setCell (p := ⟨b, 3, none⟩) (.inl rfl) (.int .u8 (x.ac.ow : Nat))).setCell (p := ⟨b, 4, none⟩) (.inl rfl) (.int .u8 (x.ac.gr : Nat))).setCell (p := ⟨b, 5, none⟩) (.inl rfl) (.int .u8 (x.ac.ot : Nat))).setCell (p := ⟨b, 6, none⟩) (.inl rfl) (.slice l.A x.ac.us.length l.c)).setCell (p := ⟨b, 7, none⟩) (.inl rfl) (.slice l.B x.ac.gs.length l.d)).setCell (p := ⟨b, 8, none⟩) (.inl rfl) (.bool x.ac.hm)).setCell (p := ⟨b, 9, none⟩) (.inl rfl) (.int .u8 (x.ac.ms : Nat))
theorem Bt.setDf (h : Bt w b x p) (l : Lie) : Bt (Go.Proofs.Ytgdiiicaljidpaa.setDf w b x l) b x ⟨p.p, l, p.X, p.n⟩ := by
  have h0 := set_cell h 11 (.int .u8 (x.df.ow : Nat))
  have h1 := set_cell h0 12 (.int .u8 (x.df.gr : Nat))
  have h2 := set_cell h1 13 (.int .u8 (x.df.ot : Nat))
  have h3 := set_cell h2 14 (.slice l.A x.df.us.length l.c)
  have h4 := set_cell h3 15 (.slice l.B x.df.gs.length l.d)
  have h5 := set_cell h4 16 (.bool x.df.hm)
  have h6 := set_cell h5 17 (.int .u8 (x.df.ms : Nat))
  unfold Bt
  simpa using h6
theorem only_setDf {a : World} (h : Only (fun j => j = b) a w) (x : At) (l : Lie) : Only (fun j => j = b) a (Go.Proofs.Ytgdiiicaljidpaa.setDf w b x l) :=
  ((((((h.setCell (p := ⟨b, 11, none⟩) (.inl rfl) (.int .u8 (x.df.ow : Nat))).setCell (p := ⟨b, 12, none⟩) (.inl rfl) (.int .u8 (x.df.gr : Nat))).setCell (p := ⟨b, 13, none⟩) (.inl rfl) (.int .u8 (x.df.ot : Nat))).setCell (p := ⟨b, 14, none⟩) (.inl rfl) (.slice l.A x.df.us.length l.c)).setCell (p := ⟨b, 15, none⟩) (.inl rfl) (.slice l.B x.df.gs.length l.d)).setCell (p := ⟨b, 16, none⟩) (.inl rfl) (.bool x.df.hm)).setCell (p := ⟨b, 17, none⟩) (.inl rfl) (.int .u8 (x.df.ms : Nat))
theorem Bt.setX (h : Bt w b x p) (X : Option Addr) (n : Nat) : Bt (w.setCell ⟨b, 18, none⟩ (.slice X x.xs.length n)) b x ⟨p.p, p.q, X, n⟩ := by
  have h0 := set_cell h 18 (.slice X x.xs.length n)
  unfold Bt
  simpa using h0
theorem Copied.keep {F : Nat → Prop} {w'' : World} {y : Ac} {l : Lie} (h : Copied w w' y l) (ho : Only F w' w'') (h1 : ∀ ad, l.A = some ad → ¬ F ad.block) (h2 : ∀ ad, l.B = some ad → ¬ F ad.block) : Copied w w'' y l :=
  ⟨⟨h.us.1.keep fun ad e => ho.block _ (h.us.1.lt ad e) (h1 ad e), h.us.2⟩, ⟨h.gs.1.keep fun ad e => ho.block _ (h.gs.1.lt ad e) (h2 ad e), h.gs.2⟩, h.ne⟩
theorem MineX.keepX {F : Nat → Prop} {w'' : World} {A : Option Addr} {n c : Nat} {L : List Xt} (h : MineX w w' A n c L) (ho : Only F w' w'') (hF : ∀ ad, A = some ad → ¬ F ad.block) : MineX w w'' A n c L :=
  ⟨h.1.keep fun ad e => ho.block _ (h.1.lt ad e) (hF ad e), h.2⟩
end
abbrev zAt : Array Value := #[.int .u8 0, .int .u16 0, .int .u16 0, .int .u8 0, .int .u8 0, .int .u8 0, .slice none 0 0, .slice none 0 0, .bool false, .int .u8 0, .bool false, .int .u8 0, .int .u8 0, .int .u8 0, .slice none 0 0, .slice none 0 0, .bool false, .int .u8 0, .slice none 0 0]
/-- While a copy is made: the block that is copied, the result's. -/
structure Cst (w wr : World) (x : At) (p : ALie) : Prop where
  bt : Bt wr w.heap.size x p
  zr : wr.heap[w.heap.size + 1]? = some (.cells zAt 31 (0, 0))
  be : Below w.heap.size w wr
theorem Cst.on {w wr w' : World} {x : At} {p : ALie} (h : Cst w wr x p) (hb : Below wr.heap.size wr w') : Cst w w' x p :=
  ⟨h.bt.on hb, (hb.block _ (lt_of_cells h.zr)).trans h.zr, h.be.trans (hb.mono h.be.size)⟩
theorem Cst.start (w : World) (x : At) (p : ALie) : Cst w ((w.alloc (.cells (x.c p) 31)).alloc (.cells zAt 31)) x p := by
  have b1 : Below w.heap.size w (w.alloc (.cells (x.c p) 31)) := (Below.refl _ _).alloc (Nat.le_refl _) _
  have b2 : Below (w.alloc (.cells (x.c p) 31)).heap.size (w.alloc (.cells (x.c p) 31)) ((w.alloc (.cells (x.c p) 31)).alloc (.cells zAt 31)) := (Below.refl _ _).alloc (Nat.le_refl _) _
  refine ⟨(Bt.new w x p).on b2, ?_, b1.trans (b2.mono (by simp))⟩
  have h := heap_alloc_new (w.alloc (.cells (x.c p) 31)) (.cells zAt 31)
  rwa [World.size_alloc] at h
theorem Cst.turn {w wr w' : World} {x : At} {p p' : ALie} (h : Cst w wr x p) (ho : Only (fun j => j = w.heap.size) wr w') (hb : Bt w' w.heap.size x p') : Cst w w' x p' :=
  ⟨hb, (ho.block _ (lt_of_cells h.zr) (by omega)).trans h.zr, h.be.trans (ho.below h.be.size (fun i hi => by omega))⟩
set_option maxRecDepth 100000 in
set_option maxHeartbeats 2000000 in
theorem racopy_calls (x : At) (p : ALie) (w : World) (h : ALies w x p) (hs : ASm x) :
    Calls Try.prog 10 #[x.v p] w fun e w' => ∃ q, e = .returned (x.v q) ∧ ACopied w w' x q ∧ Below w.heap.size w w' := by
  obtain ⟨V, hV⟩ : ∃ V, V = (w.alloc (.cells (x.c p) 31)).alloc (.cells zAt 31) := ⟨_, rfl⟩
  have S0 : Hid (Cst w V x p) := Lib.hid (by rw [hV]; exact Cst.start w x p)
  have HL := Lib.hid h
  have HS := Lib.hid hs
  clear h hs
  go_enter Try.func10, Try.ntmps10
  go_upto_region 1 with (fail)
  rw [← hV]
  clear hV
  go_wp2_with (refine wpList_load_part rfl 28 (.tmp 3) rfl w.heap.size 3 rfl (x.ac.c p.p).toList _ S0.out.bt.ac Try.underlying28 rfl acl_size (x.ac.v p.p) rfl ?_)
  refine (rcopy_calls x.ac p.p V (HL.out.ac.below S0.out.be) HS.out.ac).mono ?_
  rintro e w1 ⟨⟨A1, c1, B1, d1⟩, rfl, hC, hb⟩
  have S1 := Lib.hid (S0.out.on hb)
  have s01 : w.heap.size + 2 ≤ V.heap.size := by have := lt_of_cells S0.out.zr; omega
  have hC1 := hC.from (v := w) (by omega)
  have hf1 : (∀ ad, A1 = some ad → w.heap.size + 2 ≤ ad.block) ∧ ∀ ad, B1 = some ad → w.heap.size + 2 ≤ ad.block := ⟨fun ad e => by have := hC.us.2 ad e; omega, fun ad e => by have := hC.gs.2 ad e; omega⟩
  have HF1 := Lib.hid hf1
  have HC1 := Lib.hid hC1
  clear hb hC hC1 hf1 S0
  have y0 : w1.cell? ⟨w.heap.size, 3, none⟩ = some (.int .u8 (x.ac.ow : Nat)) := S1.out.bt.cell 3
  have f0 := S1.out.bt.frozen 3
  have y1 : w1.cell? ⟨w.heap.size, 4, none⟩ = some (.int .u8 (x.ac.gr : Nat)) := S1.out.bt.cell 4
  have f1 := S1.out.bt.frozen 4
  have y2 : w1.cell? ⟨w.heap.size, 5, none⟩ = some (.int .u8 (x.ac.ot : Nat)) := S1.out.bt.cell 5
  have f2 := S1.out.bt.frozen 5
  have y3 : w1.cell? ⟨w.heap.size, 6, none⟩ = some (.slice p.p.A x.ac.us.length p.p.c) := S1.out.bt.cell 6
  have f3 := S1.out.bt.frozen 6
  have y4 : w1.cell? ⟨w.heap.size, 7, none⟩ = some (.slice p.p.B x.ac.gs.length p.p.d) := S1.out.bt.cell 7
  have f4 := S1.out.bt.frozen 7
  have y5 : w1.cell? ⟨w.heap.size, 8, none⟩ = some (.bool x.ac.hm) := S1.out.bt.cell 8
  have f5 := S1.out.bt.frozen 8
  have y6 : w1.cell? ⟨w.heap.size, 9, none⟩ = some (.int .u8 (x.ac.ms : Nat)) := S1.out.bt.cell 9
  have f6 := S1.out.bt.frozen 9
  obtain ⟨U1, hU1⟩ : ∃ U1, U1 = (((((((w1.setCell ⟨w.heap.size, 3, none⟩ (.int .u8 (x.ac.ow : Nat))).setCell ⟨w.heap.size, 4, none⟩ (.int .u8 (x.ac.gr : Nat))).setCell ⟨w.heap.size, 5, none⟩ (.int .u8 (x.ac.ot : Nat))).setCell ⟨w.heap.size, 6, none⟩ (.slice (⟨A1, c1, B1, d1⟩ : Lie).A x.ac.us.length (⟨A1, c1, B1, d1⟩ : Lie).c)).setCell ⟨w.heap.size, 7, none⟩ (.slice (⟨A1, c1, B1, d1⟩ : Lie).B x.ac.gs.length (⟨A1, c1, B1, d1⟩ : Lie).d)).setCell ⟨w.heap.size, 8, none⟩ (.bool x.ac.hm)).setCell ⟨w.heap.size, 9, none⟩ (.int .u8 (x.ac.ms : Nat))) := ⟨_, rfl⟩
  have hO1 : Only (fun j => j = w.heap.size) w1 U1 := by rw [hU1]; exact only_setAc (Only.refl _ w1) x ⟨A1, c1, B1, d1⟩
  have T1 : Hid (Cst w U1 x ⟨⟨A1, c1, B1, d1⟩, p.q, p.X, p.n⟩) := Lib.hid (S1.out.turn hO1 (by rw [hU1]; exact S1.out.bt.setAc ⟨A1, c1, B1, d1⟩))
  have HD1 := Lib.hid (HC1.out.keep hO1 (fun ad e hF => by have := HF1.out.1 ad e; omega) (fun ad e hF => by have := HF1.out.2 ad e; omega))
  clear hO1 HC1
  go_upto_region 2 with (fail)
  rw [← hU1]
  clear hU1 S1
  clear y0 y1 y2 y3 y4 y5 y6 f0 f1 f2 f3 f4 f5 f6
  go_wp2_with (refine wpList_load_part rfl 28 (.tmp 7) rfl w.heap.size 11 rfl (x.df.c p.q).toList _ T1.out.bt.df Try.underlying28 rfl acl_size (x.df.v p.q) rfl ?_)
  refine (rcopy_calls x.df p.q U1 (HL.out.df.below T1.out.be) HS.out.df).mono ?_
  rintro e w2 ⟨⟨A2, c2, B2, d2⟩, rfl, hC, hb⟩
  have S2 := Lib.hid (T1.out.on hb)
  have s12 : w.heap.size + 2 ≤ U1.heap.size := by have := lt_of_cells T1.out.zr; omega
  have hl1 := HD1.out.us.1.lt
  have hC2 := hC.from (v := w) (by omega)
  have hf2 : (∀ ad, A2 = some ad → w.heap.size + 2 ≤ ad.block) ∧ ∀ ad, B2 = some ad → w.heap.size + 2 ≤ ad.block := ⟨fun ad e => by have := hC.us.2 ad e; omega, fun ad e => by have := hC.gs.2 ad e; omega⟩
  have HUG : Hid (∀ a b, A1 = some a → B2 = some b → a.block ≠ b.block) := Lib.hid (fun a b ha hb => by have := hl1 a ha; have := hC.gs.2 b hb; omega)
  have HF2 := Lib.hid hf2
  have HC2 := Lib.hid hC2
  have HD2 := Lib.hid (HD1.out.on hb)
  clear hb hC hC2 hf2 T1 HD1 hl1
  have y0 : w2.cell? ⟨w.heap.size, 11, none⟩ = some (.int .u8 (x.df.ow : Nat)) := S2.out.bt.cell 11
  have f0 := S2.out.bt.frozen 11
  have y1 : w2.cell? ⟨w.heap.size, 12, none⟩ = some (.int .u8 (x.df.gr : Nat)) := S2.out.bt.cell 12
  have f1 := S2.out.bt.frozen 12
  have y2 : w2.cell? ⟨w.heap.size, 13, none⟩ = some (.int .u8 (x.df.ot : Nat)) := S2.out.bt.cell 13
  have f2 := S2.out.bt.frozen 13
  have y3 : w2.cell? ⟨w.heap.size, 14, none⟩ = some (.slice p.q.A x.df.us.length p.q.c) := S2.out.bt.cell 14
  have f3 := S2.out.bt.frozen 14
  have y4 : w2.cell? ⟨w.heap.size, 15, none⟩ = some (.slice p.q.B x.df.gs.length p.q.d) := S2.out.bt.cell 15
  have f4 := S2.out.bt.frozen 15
  have y5 : w2.cell? ⟨w.heap.size, 16, none⟩ = some (.bool x.df.hm) := S2.out.bt.cell 16
  have f5 := S2.out.bt.frozen 16
  have y6 : w2.cell? ⟨w.heap.size, 17, none⟩ = some (.int .u8 (x.df.ms : Nat)) := S2.out.bt.cell 17
  have f6 := S2.out.bt.frozen 17
  obtain ⟨U2, hU2⟩ : ∃ U2, U2 = (((((((w2.setCell ⟨w.heap.size, 11, none⟩ (.int .u8 (x.df.ow : Nat))).setCell ⟨w.heap.size, 12, none⟩ (.int .u8 (x.df.gr : Nat))).setCell ⟨w.heap.size, 13, none⟩ (.int .u8 (x.df.ot : Nat))).setCell ⟨w.heap.size, 14, none⟩ (.slice (⟨A2, c2, B2, d2⟩ : Lie).A x.df.us.length (⟨A2, c2, B2, d2⟩ : Lie).c)).setCell ⟨w.heap.size, 15, none⟩ (.slice (⟨A2, c2, B2, d2⟩ : Lie).B x.df.gs.length (⟨A2, c2, B2, d2⟩ : Lie).d)).setCell ⟨w.heap.size, 16, none⟩ (.bool x.df.hm)).setCell ⟨w.heap.size, 17, none⟩ (.int .u8 (x.df.ms : Nat))) := ⟨_, rfl⟩
  have hO2 : Only (fun j => j = w.heap.size) w2 U2 := by rw [hU2]; exact only_setDf (Only.refl _ w2) x ⟨A2, c2, B2, d2⟩
  have T2 : Hid (Cst w U2 x ⟨⟨A1, c1, B1, d1⟩, ⟨A2, c2, B2, d2⟩, p.X, p.n⟩) := Lib.hid (S2.out.turn hO2 (by rw [hU2]; exact S2.out.bt.setDf ⟨A2, c2, B2, d2⟩))
  have HD3 := Lib.hid (HD2.out.keep hO2 (fun ad e hF => by have := HF1.out.1 ad e; omega) (fun ad e hF => by have := HF1.out.2 ad e; omega))
  have HE3 := Lib.hid (HC2.out.keep hO2 (fun ad e hF => by have := HF2.out.1 ad e; omega) (fun ad e hF => by have := HF2.out.2 ad e; omega))
  clear hO2 HC2 HD2
  go_upto_region 3 with (fail)
  rw [← hU2]
  clear hU2 S2
  clear y0 y1 y2 y3 y4 y5 y6 f0 f1 f2 f3 f4 f5 f6
  have y18 := T2.out.bt.c18
  have hXB := HL.out.xs.below T2.out.be
  go_upto_region 4 with (at_builtin; refine wpList_xcl rfl (.const (.slice none 0 0)) (.tmp 12) rfl p.X x.xs p.n rfl rfl hXB HS.out.xs ?_; intro A3 c3 w3 hM hb; have S3 := Lib.hid (T2.out.on hb); have s23 : w.heap.size + 2 ≤ U2.heap.size := (by have := lt_of_cells T2.out.zr; omega); have hl1 := HD3.out.us.1.lt; have hl2 := HE3.out.gs.1.lt; have hM3 := hM.from (v := w) (by omega); have HUX : Hid (∀ a b, A1 = some a → A3 = some b → a.block ≠ b.block) := Lib.hid (fun a b ha hb => by have := hl1 a ha; have := hM.2 b hb; omega); have HGX : Hid (∀ a b, B2 = some a → A3 = some b → a.block ≠ b.block) := Lib.hid (fun a b ha hb => by have := hl2 a ha; have := hM.2 b hb; omega); have HF3 : Hid (∀ ad, A3 = some ad → w.heap.size + 2 ≤ ad.block) := Lib.hid (fun ad e => by have := hM.2 ad e; omega); have HM3 := Lib.hid hM3; have HD4 := Lib.hid (HD3.out.on hb); have HE4 := Lib.hid (HE3.out.on hb); clear hb hM hM3 T2 HD3 HE3 hl1 hl2 y18; have y18 := S3.out.bt.c18; have f18 := S3.out.bt.frozen 18)
  obtain ⟨U3, hU3⟩ : ∃ U3, U3 = w3.setCell ⟨w.heap.size, 18, none⟩ (.slice A3 x.xs.length c3) := ⟨_, rfl⟩
  have hO3 : Only (fun j => j = w.heap.size) w3 U3 := by rw [hU3]; exact (Only.refl (fun j => j = w.heap.size) w3).setCell (p := ⟨w.heap.size, 18, none⟩) (.inl rfl) _
  have T3 : Hid (Cst w U3 x ⟨⟨A1, c1, B1, d1⟩, ⟨A2, c2, B2, d2⟩, A3, c3⟩) := Lib.hid (S3.out.turn hO3 (by rw [hU3]; exact S3.out.bt.setX A3 c3))
  have hD5 := HD4.out.keep hO3 (fun ad e hF => by have := HF1.out.1 ad e; omega) (fun ad e hF => by have := HF1.out.2 ad e; omega)
  have hE5 := HE4.out.keep hO3 (fun ad e hF => by have := HF2.out.1 ad e; omega) (fun ad e hF => by have := HF2.out.2 ad e; omega)
  have hM5 := HM3.out.keepX hO3 (fun ad e hF => by have := HF3.out ad e; omega)
  rw [← hU3]
  clear hU3 S3 y18 f18 hO3 HD4 HE4 HM3
  obtain ⟨q, hq⟩ : ∃ q : ALie, q = ⟨⟨A1, c1, B1, d1⟩, ⟨A2, c2, B2, d2⟩, A3, c3⟩ := ⟨_, rfl⟩
  have hOz : Only (fun j => j = w.heap.size + 1) U3 (U3.setRow (w.heap.size + 1) (x.c q)) := Only.setRow (F := fun j => j = w.heap.size + 1) (Only.refl _ _) rfl _
  have HCC : Hid (ACopied w (U3.setRow (w.heap.size + 1) (x.c q)) x q) := Lib.hid (by
    have c1 := hD5.keep hOz (fun ad e hF => by have := HF1.out.1 ad e; omega) (fun ad e hF => by have := HF1.out.2 ad e; omega)
    have c2 := hE5.keep hOz (fun ad e hF => by have := HF2.out.1 ad e; omega) (fun ad e hF => by have := HF2.out.2 ad e; omega)
    have c3 := hM5.keepX hOz (fun ad e hF => by have := HF3.out ad e; omega)
    generalize U3.setRow (w.heap.size + 1) (x.c q) = Z at *
    subst hq
    exact ⟨c1, c2, c3, HUG.out, HUX.out, HGX.out⟩)
  have HBT : Hid (U3.heap[w.heap.size]? = some (.cells (x.c q) 31 (0, 0))) := Lib.hid (by rw [hq]; exact T3.out.bt)
  have HQ : Hid ((U3.setRow (w.heap.size + 1) (x.c q)).heap[w.heap.size + 1]? = some (.cells (x.c q) 31 (0, 0))) := Lib.hid (setRow_heap _ _ _ _ _ _ T3.out.zr)
  have HBQ : Hid (Below w.heap.size w (U3.setRow (w.heap.size + 1) (x.c q))) := Lib.hid (below_setRow T3.out.be (by omega) _)
  have hone : (x.c q).all (·.oneCell') = true := by rw [← Array.all_toList]; rfl
  have hsz : (Try.prog.info? 31).map (·.size) = some (x.c q).size := attr_size
  have hold : (zAt : Array Value).size = (x.c q).size := rfl
  clear hq hOz hD5 hE5 hM5
  obtain ⟨C2, hC2⟩ : ∃ C2, C2 = x.c q := ⟨_, rfl⟩
  rw [← hC2] at HBT hone HQ HBQ HCC hsz hold
  obtain ⟨Z, hZ⟩ : ∃ Z, Z = U3.setRow (w.heap.size + 1) C2 := ⟨_, rfl⟩
  rw [← hZ] at HQ HBQ HCC
  have HC2 := Lib.hid hC2
  clear hC2
  go_wp2_with (first
    | (refine wpList_load_row rfl 31 (.tmp 1) rfl w.heap.size rfl 31 C2 (0, 0) _ HBT.out Try.underlying31 rfl hsz ?_)
    | (refine wpList_store_rowTo rfl 31 (.tmp 2) (.tmp 15) rfl rfl (w.heap.size + 1) C2 rfl rfl 31 _ T3.out.zr hsz hold hone ?_; rw [← hZ]))
  exact bodyPost_ret (results_cell_row rfl _ _ (w.heap.size + 1) 31 _ (0, 0) _ rfl HQ.out Try.underlying31 rfl hsz) rfl ⟨q, by rw [HC2.out], HCC.out, HBQ.out⟩
end Go.Proofs.Ytgdiiicaljidpaa
