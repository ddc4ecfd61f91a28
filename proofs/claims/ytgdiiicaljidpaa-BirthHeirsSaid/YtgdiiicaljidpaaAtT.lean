/- Attributes, and the words that they are: what is written is read back. No program stands here. -/
import Derived.Test.YtgdiiicaljidpaaAcT
import Derived.Test.YtgdiiicaljidpaaMathT
import Derived.Laws.StructEq
import Derived.StillTactics
import Derived.BigFrame
import Derived.Lib.Bytealg
import Derived.RegionTactic
import Derived.BigRegion
import Derived.Lib.QuietBelow
set_option linter.unusedSimpArgs false
set_option linter.unusedVariables false
set_option linter.unusedSimpArgs false
set_option linter.unusedVariables false
namespace Go.Proofs.Ytgdiiicaljidpaa
open WordMath
/-- A key and its value. -/
structure Xt where
  key : ByteArray
  val : ByteArray
/-- Attributes. -/
structure At where
  bi : Nat
  ui : Nat
  gi : Nat
  ac : Ac
  hd : Bool
  df : Ac
  xs : List Xt
def flg (b : Bool) : Nat := if b then 1 else 0
/-- A named one as a number; of a row, or 0; two of a row. -/
def nmN (p : Nm) : Nat := p.id + 65536 * p.pm
def nmA (L : List Nm) (k : Nat) : Nat := match L[k]? with
  | some p => nmN p
  | none => 0
def prW (L : List Nm) (k : Nat) : Nat := nmA L k + 4294967296 * nmA L (k + 1)
/-- The head of a list. -/
def hdW (x : Ac) : Nat := x.ow + 16 * x.gr + 256 * x.ot + 4096 * x.ms + 65536 * flg x.hm + 1048576 * x.us.length + 16777216 * x.gs.length
/-- Word k of a text. -/
def pwd (s : ByteArray) (k : Nat) : Nat := (packL s.data.toList).getD k 0
/-- The words of the k-th key and value: its j-th. -/
def xaW (L : List Xt) (k j : Nat) : Nat := match L[k]? with
  | some x => if j = 0 then pwd x.key 0 else if j = 1 then x.key.size + 256 * x.val.size else if j = 2 then pwd x.val 0 else pwd x.val 1
  | none => 0
/-- All words ahead of the seal. -/
def atL (x : At) : List Nat :=
  [x.bi + 8 * flg x.hd + 16 * x.xs.length + 4294967296 * 1096045650, x.ui + 65536 * x.gi, hdW x.ac, hdW x.df,
   prW x.ac.us 0, prW x.ac.us 2, prW x.ac.gs 0, prW x.ac.gs 2, prW x.df.us 0, prW x.df.us 2, prW x.df.gs 0, prW x.df.gs 2,
   xaW x.xs 0 0, xaW x.xs 0 1, xaW x.xs 0 2, xaW x.xs 0 3, xaW x.xs 1 0, xaW x.xs 1 1, xaW x.xs 1 2, xaW x.xs 1 3,
   xaW x.xs 2 0, xaW x.xs 2 1, xaW x.xs 2 2, xaW x.xs 2 3, xaW x.xs 3 0, xaW x.xs 3 1, xaW x.xs 3 2, xaW x.xs 3 3, 0, 0, 0]
theorem atL_length (x : At) : (atL x).length = 31 := rfl
/-- What stands in words. -/
def txtB (l : List Nat) (n : Nat) : ByteArray := ⟨(textL l n).toArray⟩
def whoK (l : List Nat) (a k : Nat) : Nm := ⟨fld (l.getD (a + k / 2) 0) (32 * (k % 2)) 32 % 65536, fld (l.getD (a + k / 2) 0) (32 * (k % 2)) 32 / 65536 % 256⟩
def whoL (l : List Nat) (a n : Nat) : List Nm := (List.range (min n 4)).map (whoK l a)
def rdAc (l : List Nat) (h a : Nat) : Ac :=
  ⟨fld (l.getD h 0) 0 4, fld (l.getD h 0) 4 4, fld (l.getD h 0) 8 4, whoL l a (fld (l.getD h 0) 20 4), whoL l (a + 2) (fld (l.getD h 0) 24 4), decide (fld (l.getD h 0) 16 1 = 1), fld (l.getD h 0) 12 4⟩
def rdX (l : List Nat) (k : Nat) : Xt := ⟨txtB [l.getD (12 + 4 * k) 0] (fld (l.getD (13 + 4 * k) 0) 0 8), txtB [l.getD (14 + 4 * k) 0, l.getD (15 + 4 * k) 0] (fld (l.getD (13 + 4 * k) 0) 8 8)⟩
def rdAt (l : List Nat) : At :=
  ⟨fld (l.getD 0 0) 0 3, fld (l.getD 1 0) 0 16, fld (l.getD 1 0) 16 16, rdAc l 2 4, decide (fld (l.getD 0 0) 3 1 = 1), rdAc l 3 8, (List.range (min (fld (l.getD 0 0) 4 4) 4)).map (rdX l)⟩
/-- Lists whose numbers fit their fields. -/
structure AcFit (x : Ac) : Prop where
  ow : x.ow ≤ 7
  gr : x.gr ≤ 7
  ot : x.ot ≤ 7
  ms : x.ms ≤ 7
  ul : x.us.length ≤ 4
  gl : x.gs.length ≤ 4
  us : ∀ (k : Nat) p, x.us[k]? = some p → p.id < 65536 ∧ p.pm < 256
  gs : ∀ (k : Nat) p, x.gs[k]? = some p → p.id < 65536 ∧ p.pm < 256
structure AtFit (x : At) : Prop where
  bi : x.bi ≤ 7
  ui : x.ui < 65536
  gi : x.gi < 65536
  ac : AcFit x.ac
  df : AcFit x.df
  xl : x.xs.length ≤ 4
  xs : ∀ (k : Nat) p, x.xs[k]? = some p → p.key.size ≤ 8 ∧ p.val.size ≤ 16
theorem flg_lt (b : Bool) : flg b < 2 := by cases b <;> decide
theorem flg_eq (b : Bool) : decide (flg b = 1) = b := by cases b <;> rfl
theorem fld_div (w a n : Nat) : fld w a n = w / 2 ^ a % 2 ^ n := rfl
theorem hd_back {x : Ac} (h : AcFit x) : fld (hdW x) 0 4 = x.ow ∧ fld (hdW x) 4 4 = x.gr ∧ fld (hdW x) 8 4 = x.ot ∧ fld (hdW x) 12 4 = x.ms ∧ fld (hdW x) 16 1 = flg x.hm ∧ fld (hdW x) 20 4 = x.us.length ∧ fld (hdW x) 24 4 = x.gs.length := by
  obtain ⟨h1, h2, h3, h4, h5, h6, _, _⟩ := h
  have h7 := flg_lt x.hm
  unfold hdW
  simp only [fld_div, Nat.reducePow]
  generalize x.us.length = a at *
  generalize x.gs.length = b at *
  generalize flg x.hm = c at *
  refine ⟨?_, ?_, ?_, ?_, ?_, ?_, ?_⟩ <;> omega
theorem nmA_lt {L : List Nm} (h : ∀ (k : Nat) p, L[k]? = some p → p.id < 65536 ∧ p.pm < 256) (k : Nat) : nmA L k < 16777216 := by
  unfold nmA
  cases hk : L[k]? with
  | none => simp
  | some p =>
    have := h k p hk
    simp only [nmN]
    omega
/-- A row is read back. -/
theorem who_back {L : List Nm} (l : List Nat) (a : Nat) (hl : L.length ≤ 4) (h : ∀ (k : Nat) p, L[k]? = some p → p.id < 65536 ∧ p.pm < 256) (h0 : l.getD a 0 = prW L 0) (h1 : l.getD (a + 1) 0 = prW L 2) : whoL l a L.length = L := by
  have hn := nmA_lt h
  have one : ∀ k p, L[k]? = some p → whoK l a k = p := by
    intro k p hk
    have hk4 : k < 4 := by have := (List.getElem?_eq_some_iff.1 hk).1; omega
    obtain ⟨i1, i2⟩ := h k p hk
    have e : nmA L k = p.id + 65536 * p.pm := by unfold nmA; rw [hk]; rfl
    have key : fld (l.getD (a + k / 2) 0) (32 * (k % 2)) 32 = nmA L k := by
      have n0 := hn 0
      have n1 := hn 1
      have n2 := hn 2
      have n3 := hn 3
      obtain rfl | rfl | rfl | rfl : k = 0 ∨ k = 1 ∨ k = 2 ∨ k = 3 := by omega
      · show fld (l.getD a 0) 0 32 = _
        rw [h0]; simp only [prW, fld_div, Nat.reducePow, Nat.reduceAdd]; omega
      · show fld (l.getD a 0) 32 32 = _
        rw [h0]; simp only [prW, fld_div, Nat.reducePow, Nat.reduceAdd]; omega
      · show fld (l.getD (a + 1) 0) 0 32 = _
        rw [h1]; simp only [prW, fld_div, Nat.reducePow, Nat.reduceAdd]; omega
      · show fld (l.getD (a + 1) 0) 32 32 = _
        rw [h1]; simp only [prW, fld_div, Nat.reducePow, Nat.reduceAdd]; omega
    unfold whoK
    rw [key, e]
    obtain ⟨id, pm⟩ := p
    simp only at i1 i2
    have e1 : (id + 65536 * pm) % 65536 = id := by omega
    have e2 : (id + 65536 * pm) / 65536 % 256 = pm := by omega
    simp only [e1, e2]
  unfold whoL
  rw [Nat.min_eq_left hl]
  apply List.ext_getElem?
  intro k
  by_cases hk : k < L.length
  · rw [List.getElem?_map, List.getElem?_range hk, List.getElem?_eq_getElem hk]
    simp only [Option.map_some, Option.some.injEq]
    exact one k _ (List.getElem?_eq_getElem hk)
  · rw [List.getElem?_eq_none (by simpa using hk), List.getElem?_eq_none (by omega)]
theorem ac_back {x : Ac} (l : List Nat) (i a : Nat) (h : AcFit x) (hh : l.getD i 0 = hdW x) (h0 : l.getD a 0 = prW x.us 0) (h1 : l.getD (a + 1) 0 = prW x.us 2) (h2 : l.getD (a + 2) 0 = prW x.gs 0) (h3 : l.getD (a + 3) 0 = prW x.gs 2) : rdAc l i a = x := by
  obtain ⟨b1, b2, b3, b4, b5, b6, b7⟩ := hd_back h
  unfold rdAc
  rw [hh, b1, b2, b3, b4, b5, b6, b7, who_back l a h.ul h.us h0 h1, who_back l (a + 2) h.gl h.gs h2 h3, flg_eq]
theorem pwd_text (s : ByteArray) (l : List Nat) (h : ∀ k, k < s.size → l.getD (k / 8) 0 = pwd s (k / 8)) : txtB l s.size = s := by
  have hl : s.data.toList.length = s.size := by simp
  have e : textL l s.size = textL (packL s.data.toList) s.data.toList.length := by
    rw [hl]
    unfold textL
    apply List.map_congr_left
    intro k hk
    have hk2 : k < s.size := by simpa using hk
    rw [h k hk2]
    rfl
  unfold txtB
  rw [e, text_pack]
theorem x_back {L : List Xt} (l : List Nat) (k : Nat) (p : Xt) (hp : L[k]? = some p) (h8 : p.key.size ≤ 8) (h16 : p.val.size ≤ 16) (h0 : l.getD (12 + 4 * k) 0 = xaW L k 0) (h1 : l.getD (13 + 4 * k) 0 = xaW L k 1) (h2 : l.getD (14 + 4 * k) 0 = xaW L k 2) (h3 : l.getD (15 + 4 * k) 0 = xaW L k 3) : rdX l k = p := by
  have e0 : xaW L k 0 = pwd p.key 0 := by unfold xaW; rw [hp]; rfl
  have e1 : xaW L k 1 = p.key.size + 256 * p.val.size := by unfold xaW; rw [hp]; rfl
  have e2 : xaW L k 2 = pwd p.val 0 := by unfold xaW; rw [hp]; rfl
  have e3 : xaW L k 3 = pwd p.val 1 := by unfold xaW; rw [hp]; rfl
  have f1 : fld (p.key.size + 256 * p.val.size) 0 8 = p.key.size := by simp only [fld_div, Nat.reducePow]; omega
  have f2 : fld (p.key.size + 256 * p.val.size) 8 8 = p.val.size := by simp only [fld_div, Nat.reducePow]; omega
  unfold rdX
  rw [h0, h1, h2, h3, e0, e1, e2, e3, f1, f2]
  obtain ⟨key, val⟩ := p
  simp only at h8 h16 ⊢
  rw [pwd_text key _ (fun j hj => by
      have : j / 8 = 0 := by omega
      rw [this]; rfl), pwd_text val _ (fun j hj => by
      have : j / 8 = 0 ∨ j / 8 = 1 := by omega
      rcases this with e | e <;> rw [e] <;> rfl)]
/-- **What is written is read back.** -/
theorem at_back {x : At} (l : List Nat) (h : AtFit x) (hl : ∀ k, k < 31 → l.getD k 0 = (atL x).getD k 0) : rdAt l = x := by
  have g : ∀ k v, (atL x)[k]? = some v → l.getD k 0 = v := fun k v hv => by
    have hk : k < 31 := (List.getElem?_eq_some_iff.1 hv).1
    rw [hl k hk, List.getD_eq_getElem?_getD, hv]; rfl
  have w0 := g 0 _ rfl
  have w1 := g 1 _ rfl
  have hf := flg_lt x.hd
  have hxl := h.xl
  have c0 : fld (l.getD 0 0) 0 3 = x.bi := by rw [w0]; have := h.bi; simp only [fld_div, Nat.reducePow]; generalize x.xs.length = n at *; generalize flg x.hd = f at *; omega
  have c1 : fld (l.getD 0 0) 3 1 = flg x.hd := by rw [w0]; have := h.bi; simp only [fld_div, Nat.reducePow]; generalize x.xs.length = n at *; generalize flg x.hd = f at *; omega
  have c2 : fld (l.getD 0 0) 4 4 = x.xs.length := by rw [w0]; have := h.bi; simp only [fld_div, Nat.reducePow]; generalize x.xs.length = n at *; generalize flg x.hd = f at *; omega
  have c3 : fld (l.getD 1 0) 0 16 = x.ui := by rw [w1]; have := h.ui; have := h.gi; simp only [fld_div, Nat.reducePow]; omega
  have c4 : fld (l.getD 1 0) 16 16 = x.gi := by rw [w1]; have := h.ui; have := h.gi; simp only [fld_div, Nat.reducePow]; omega
  have c5 : rdAc l 2 4 = x.ac := ac_back l 2 4 h.ac (g 2 _ rfl) (g 4 _ rfl) (g 5 _ rfl) (g 6 _ rfl) (g 7 _ rfl)
  have c6 : rdAc l 3 8 = x.df := ac_back l 3 8 h.df (g 3 _ rfl) (g 8 _ rfl) (g 9 _ rfl) (g 10 _ rfl) (g 11 _ rfl)
  have c7 : (List.range (min x.xs.length 4)).map (rdX l) = x.xs := by
    rw [Nat.min_eq_left hxl]
    apply List.ext_getElem?
    intro k
    by_cases hk : k < x.xs.length
    · rw [List.getElem?_map, List.getElem?_range hk, List.getElem?_eq_getElem hk]
      simp only [Option.map_some, Option.some.injEq]
      have hp := List.getElem?_eq_getElem hk
      obtain ⟨s8, s16⟩ := h.xs k _ hp
      obtain rfl | rfl | rfl | rfl : k = 0 ∨ k = 1 ∨ k = 2 ∨ k = 3 := by omega
      · exact x_back l 0 _ hp s8 s16 (g 12 _ rfl) (g 13 _ rfl) (g 14 _ rfl) (g 15 _ rfl)
      · exact x_back l 1 _ hp s8 s16 (g 16 _ rfl) (g 17 _ rfl) (g 18 _ rfl) (g 19 _ rfl)
      · exact x_back l 2 _ hp s8 s16 (g 20 _ rfl) (g 21 _ rfl) (g 22 _ rfl) (g 23 _ rfl)
      · exact x_back l 3 _ hp s8 s16 (g 24 _ rfl) (g 25 _ rfl) (g 26 _ rfl) (g 27 _ rfl)
    · rw [List.getElem?_eq_none (by simpa using hk), List.getElem?_eq_none (by omega)]
  unfold rdAt
  rw [c0, c1, c2, c3, c4, c5, c6, c7, flg_eq]
/-- Words below 2 to the 64. -/
theorem pwd_lt (s : ByteArray) (k : Nat) : pwd s k < 18446744073709551616 := pack_wd s.data.toList _ (Nat.le_refl _) k
theorem xaW_lt {x : At} (h : AtFit x) (k j : Nat) : xaW x.xs k j < 18446744073709551616 := by
  unfold xaW
  cases hk : x.xs[k]? with
  | none => simp
  | some p =>
    have := h.xs k p hk
    have h1 := pwd_lt p.key 0
    have h2 := pwd_lt p.val 0
    have h3 := pwd_lt p.val 1
    simp only
    split
    · exact h1
    · split
      · omega
      · split
        · exact h2
        · exact h3
theorem prW_lt {L : List Nm} (h : ∀ (k : Nat) p, L[k]? = some p → p.id < 65536 ∧ p.pm < 256) (k : Nat) : prW L k < 18446744073709551616 := by
  have h1 := nmA_lt h k
  have h2 := nmA_lt h (k + 1)
  unfold prW
  omega
theorem hdW_lt {x : Ac} (h : AcFit x) : hdW x < 18446744073709551616 := by
  obtain ⟨h1, h2, h3, h4, h5, h6, _, _⟩ := h
  have h7 := flg_lt x.hm
  unfold hdW
  omega
theorem atL_wd {x : At} (h : AtFit x) : Wd (atL x) := by
  have hf := flg_lt x.hd
  have hx := h.xl
  have hb := h.bi
  have hu := h.ui
  have hg := h.gi
  have key : ∀ v ∈ atL x, v < 18446744073709551616 := by
    intro v hv
    simp only [atL, List.mem_cons, List.mem_nil_iff, or_false] at hv
    rcases hv with rfl | rfl | rfl | rfl | rfl | rfl | rfl | rfl | rfl | rfl | rfl | rfl | rfl | rfl | rfl | rfl | rfl | rfl | rfl | rfl | rfl | rfl | rfl | rfl | rfl | rfl | rfl | rfl | rfl | rfl | rfl
    · omega
    · omega
    · exact hdW_lt h.ac
    · exact hdW_lt h.df
    · exact prW_lt h.ac.us _
    · exact prW_lt h.ac.us _
    · exact prW_lt h.ac.gs _
    · exact prW_lt h.ac.gs _
    · exact prW_lt h.df.us _
    · exact prW_lt h.df.us _
    · exact prW_lt h.df.gs _
    · exact prW_lt h.df.gs _
    all_goals first | exact xaW_lt h _ _ | decide
  intro k
  rw [List.getD_eq_getElem?_getD]
  cases hk : (atL x)[k]? with
  | none => decide
  | some v => exact key v (List.mem_of_getElem? hk)
end Go.Proofs.Ytgdiiicaljidpaa
/- Attributes as values and as blocks; rows of keys and values. -/
set_option linter.unusedSimpArgs false
set_option linter.unusedVariables false
namespace Go.Proofs.Ytgdiiicaljidpaa
open Go.RowKit
/-- As cells. -/
def xv : List Xt → List Value
  | [] => []
  | p :: r => .string p.key :: .string p.val :: xv r
theorem xv_length (L : List Xt) : (xv L).length = L.length * 2 := by
  induction L with
  | nil => rfl
  | cons p r ih => simp only [xv, List.length_cons, ih]; omega
theorem xv_one (L : List Xt) : ∀ u ∈ xv L, u.oneCell' = true := by
  induction L with
  | nil => simp [xv]
  | cons p r ih =>
    intro u hu
    simp only [xv, List.mem_cons] at hu
    rcases hu with rfl | rfl | hu
    · rfl
    · rfl
    · exact ih u hu
theorem xv_get {L : List Xt} : ∀ {k : Nat} {p : Xt}, L[k]? = some p → (xv L)[k * 2]? = some (.string p.key) ∧ (xv L)[k * 2 + 1]? = some (.string p.val) := by
  induction L with
  | nil => intro k p h; simp at h
  | cons q r ih =>
    intro k p h
    cases k with
    | zero =>
      simp only [List.getElem?_cons_zero, Option.some.injEq] at h
      subst h
      exact ⟨rfl, rfl⟩
    | succ k =>
      rw [List.getElem?_cons_succ] at h
      obtain ⟨h1, h2⟩ := ih h
      rw [show (k + 1) * 2 = k * 2 + 1 + 1 by omega, show k * 2 + 1 + 1 + 1 = k * 2 + 1 + 1 + 1 from rfl]
      simp only [xv, List.getElem?_cons_succ]
      exact ⟨h1, h2⟩
theorem xv_setKey (L : List Xt) : ∀ {k : Nat} {p : Xt} (s : ByteArray), L[k]? = some p → xv (L.set k ⟨s, p.val⟩) = (xv L).set (k * 2) (.string s) := by
  induction L with
  | nil => intro k p n h; simp at h
  | cons q r ih =>
    intro k p n h
    cases k with
    | zero =>
      simp only [List.getElem?_cons_zero, Option.some.injEq] at h
      subst h
      rfl
    | succ k =>
      rw [List.getElem?_cons_succ] at h
      rw [show (k + 1) * 2 = k * 2 + 1 + 1 by omega, List.set_cons_succ]
      simp only [xv, List.set_cons_succ]
      rw [ih n h]
theorem xattr_info : (Try.prog.info? 63).map (fun i => (i.zero, i.size, i.bytes)) = some (some (.agg #[.string ⟨#[]⟩, .string ⟨#[]⟩]), 2, 32) := by kernel_rfl
/-- A row of the call's own (made at w). -/
def MineX (w w' : World) (A : Option Addr) (n c : Nat) (L : List Xt) : Prop := OwnR w' 63 2 A n c (xv L) ∧ ∀ ad, A = some ad → w.heap.size ≤ ad.block
theorem MineX.cel {w w' : World} {A : Option Addr} {n c : Nat} {L : List Xt} (h : MineX w w' A n c L) : Cel w' A (xv L) := h.1.cel
theorem MineX.on {w w' w'' : World} {A : Option Addr} {n c : Nat} {L : List Xt} (h : MineX w w' A n c L) (hb : Below w'.heap.size w' w'') : MineX w w'' A n c L :=
  ⟨h.1.keep fun ad e => hb.block _ (h.1.lt ad e), h.2⟩
theorem MineX.from {v w w' : World} {A : Option Addr} {n c : Nat} {L : List Xt} (h : MineX w w' A n c L) (hb : v.heap.size ≤ w.heap.size) : MineX v w' A n c L :=
  ⟨h.1, fun ad e => Nat.le_trans hb (h.2 ad e)⟩
theorem MineX.other {w w' : World} {A : Option Addr} {n c : Nat} {L : List Xt} (h : MineX w w' A n c L) {a : Addr} (v : Value) (hne : ∀ ad, A = some ad → ad.block ≠ a.block) : MineX w (w'.setCell a v) A n c L :=
  ⟨h.1.keep fun ad e => Below.heap_setCell w' a v ad.block (hne ad e), h.2⟩
set_option maxRecDepth 100000 in
/-- 'append(nil, l...)'. -/
theorem run_xcl (A : Option Addr) (L : List Xt) (c : Nat) (w : World) (ty : TypeId) (hc : Cel w A (xv L)) (hl : L.length ≤ 1099511627776) :
    ∃ B cB w', (Builtin.append_ #[29, 29] ty #[.slice none 0 0, .slice A L.length c]).run Try.prog w = .ok (.slice B L.length cB) w' ∧ MineX w w' B L.length cB L ∧ Below w.heap.size w w' := by
  obtain ⟨i0, hi, hz0, hz1, hz2⟩ := info_parts xattr_info
  rcases A with _ | ad
  · have h0 : L = [] := by
      cases L with
      | nil => rfl
      | cons x r => obtain ⟨ad, h, _⟩ := hc (by rw [xv_length]; simp); cases h
    subst h0
    refine ⟨none, 0, w, ?_, ⟨OwnR.nil _ _ _, fun ad h => by cases h⟩, Below.refl _ _⟩
    simp [Builtin.append_, run_underlying Try.underlying29, sizeOf, typeInfo, hi, Builtin.lenOf, Builtin.firstCells]
  · have hcell : ∀ j u, (xv L)[j]? = some u → w.cell? (ad.add j) = some u := by
      intro j u hu
      obtain ⟨ad', h, _, hcc⟩ := hc (by have := (List.getElem?_eq_some_iff.1 hu).1; omega)
      injection h with h
      subst h
      exact hcc j u hu
    obtain ⟨v', w', hrun, h2, h3, _⟩ := run_append_own (P := Try.prog) w w.heap.size 29 ty 63 i0 (.agg #[.string ⟨#[]⟩, .string ⟨#[]⟩]) 2 32 Try.underlying29 hi hz0 hz1 hz2 rfl (by decide) (.slice none 0 0) 0 [] (World.ownsRow_nil _ _ _ _) ad L.length c (xv L) (xv_length L) hcell (xv_one L) (by unfold maxLen; omega) (by omega) (Nat.le_refl _)
    simp only [Nat.zero_add, List.nil_append] at hrun h2
    obtain ⟨B, cB, rfl, hO, hb⟩ := OwnR.of_own h2
    exact ⟨B, cB, w', hrun, ⟨hO, hb⟩, (Below.refl _ _).grown h3 (Nat.le_refl _) (fun k hk => by simp [Value.ownBlock] at hk)⟩
theorem wpList_xcl {w : World} {ops : Array Oper} {rest : List Oper} {o : Oper} {a : Act} {Q : Exit → Act → World → Prop} (hgd : o.guard = none) (s x : Operand)
    (ho : o.op = .call { callee := .builtin .append, args := #[s, x], argTypes := #[29, 29] })
    (A : Option Addr) (L : List Xt) (c : Nat) (hs : a.eval s = .slice none 0 0) (hx : a.eval x = .slice A L.length c) (hr : Cel w A (xv L)) (hlen : L.length ≤ 1099511627776)
    (h : ∀ B cB w', MineX w w' B L.length cB L → Below w.heap.size w w' → wpList Try.prog ops Q rest (a.put o.dst (.slice B L.length cB)) w') : wpList Try.prog ops Q (o :: rest) a w :=
  wpList_plain hgd fun _ hK => by
    obtain ⟨B, cB, w', hrun, h2, h3⟩ := run_xcl A L c w o.type hr hlen
    unfold Oper.wp execOp
    simp only [ho, resolve, invoke, builtin, Sem.run_bind, Sem.run_pure, Result.andThen_ok, List.map_toArray, List.map_cons, List.map_nil, hs, hx, hrun]
    exact hK _ _ (h B cB w' h2 h3)
/-- Element k's two cells. -/
theorem Cel.xt {w : World} {A : Option Addr} {L : List Xt} (h : Cel w A (xv L)) (h0 : 0 < L.length) : ∃ b o, A = some ⟨b, o, none⟩ ∧ b < w.heap.size ∧ ∀ k p, L[k]? = some p → w.cell? ⟨b, o + k * 2, none⟩ = some (.string p.key) ∧ w.cell? ⟨b, o + k * 2 + 1, none⟩ = some (.string p.val) := by
  obtain ⟨b, o, e, hlt, hc⟩ := h.at0 (by rw [xv_length]; omega)
  refine ⟨b, o, e, hlt, fun k p hk => ?_⟩
  obtain ⟨h1, h2⟩ := xv_get hk
  exact ⟨hc _ _ h1, by rw [Nat.add_assoc]; exact hc _ _ h2⟩
/-! ### which are the same -/
def eqX1 (a b c d : ByteArray) : Bool := decide (a = c) && decide (b = d)
theorem ba_toList {s t : ByteArray} : s.toList = t.toList ↔ s = t := by
  constructor
  · intro h
    rw [ByteArray.toList_eq, ByteArray.toList_eq] at h
    cases s; cases t
    simp only at h
    rw [Array.toList_inj.1 h]
  · rintro rfl; rfl
set_option maxRecDepth 100000 in
theorem eqXt (a b c d : ByteArray) (w : World) :
    (Op.equalIn 10000 63 (.agg #[.string a, .string b]) (.agg #[.string c, .string d])).run Try.prog w = .ok (eqX1 a b c d) w := by
  have u5 := Try.underlying9
  have a5 := Try.isAgg9
  have z5 := Try.sizeOf9
  have hS : Try.prog.underlying 63 = some (.struct (Try.prog.fieldsOf 63)) := by kernel_rfl
  have hp : Try.prog.stoodInHeld 63 = false := by kernel_rfl
  rw [show (10000 : Nat) = 9999 + 1 from rfl, run_equalIn_agg w 9999 63 _ _ hS hp]
  simp only [Program.fieldsOf, Try.underlying63]
  go_simp
  unfold eqX1
  by_cases h1 : a = c <;> by_cases h2 : b = d <;> simp [h1, h2, ba_toList]
def AlikeX (L M : List Xt) (k : Nat) : Prop := ∀ j, j < k → L[j]? = M[j]?
theorem AlikeX.more {L M : List Xt} {k : Nat} (h : AlikeX L M k) (e : L[k]? = M[k]?) : AlikeX L M (k + 1) := fun j hj => by
  by_cases h1 : j < k
  · exact h j h1
  · obtain rfl : j = k := by omega
    exact e
theorem AlikeX.eq {L M : List Xt} (h : AlikeX L M L.length) (hl : L.length = M.length) : L = M := by
  apply List.ext_getElem?
  intro i
  by_cases hi : i < L.length
  · exact h i hi
  · rw [List.getElem?_eq_none (by omega), List.getElem?_eq_none (by omega)]
instance : DecidableEq Xt := fun p q => if h : p.key = q.key ∧ p.val = q.val then isTrue (by cases p; cases q; simp only at h; rw [h.1, h.2]) else isFalse (by rintro rfl; exact h ⟨rfl, rfl⟩)
def xrowsB (L M : List Xt) : Bool := decide (L = M)
theorem xrowsB_self (L : List Xt) : xrowsB L L = true := decide_eq_true rfl
theorem xrowsB_no {L M : List Xt} (h : L ≠ M) : xrowsB L M = false := decide_eq_false h
theorem xrowsB_iff {L M : List Xt} : xrowsB L M = true ↔ L = M := decide_eq_true_iff
theorem xrowsB_at {L M : List Xt} {k : Nat} {p q : Xt} (hp : L[k]? = some p) (hq : M[k]? = some q) (h : p ≠ q) : xrowsB L M = false :=
  xrowsB_no (by rintro rfl; rw [hp] at hq; cases hq; exact h rfl)
theorem xt_ext {p q : Xt} (h1 : p.key = q.key) (h2 : p.val = q.val) : p = q := by cases p; cases q; simp only at h1 h2; rw [h1, h2]
theorem eqX1_yes (a b : ByteArray) : eqX1 a b a b = true := by simp [eqX1]
theorem eqX1_no {p q : Xt} (h : p ≠ q) : eqX1 p.key p.val q.key q.val = false := by
  cases hb : eqX1 p.key p.val q.key q.val
  · rfl
  · simp only [eqX1, Bool.and_eq_true, decide_eq_true_eq] at hb
    exact absurd (xt_ext hb.1 hb.2) h
set_option maxRecDepth 100000 in
theorem samex_calls (A B : Option Addr) (L M : List Xt) (c d : Nat) (w : World) (ha : Cel w A (xv L)) (hb : Cel w B (xv M)) (hlen : L.length ≤ 1099511627776) (hlen2 : M.length ≤ 1099511627776) :
    Calls Try.prog 30 #[.slice A L.length c, .slice B M.length d] w (Q (.bool (xrowsB L M)) w) := by
  by_cases hn : L.length = M.length
  · obtain ⟨n, hLn⟩ : ∃ n, L.length = n := ⟨_, rfl⟩
    have hMn : M.length = n := by omega
    have HL := Lib.hid hLn
    have HM := Lib.hid hMn
    rw [hLn, hMn]
    rw [hLn] at hlen
    clear hn hLn hMn hlen2
    go_enter Try.func30, Try.ntmps30
    go_wp2_with (fail)
    go_loopw [5] (fun i wr => ∃ k : Nat, i = .int .i64 k ∧ k ≤ n ∧ Hid (AlikeX L M k) ∧ ∃ q, wr = w.drewN q) (fun i _ => n - (intOf i).toNat)
    case atStart => exact ⟨0, rfl, by omega, Lib.hid (fun j hj => absurd hj (by omega)), 0, rfl⟩
    case round =>
      obtain ⟨k, rfl, hk, hs, q, rfl⟩ := hrel
      by_cases h1 : k < n
      · obtain ⟨b1, o1, rfl, _, hca⟩ := ha.xt (by rw [HL.out]; omega)
        obtain ⟨b2, o2, rfl, _, hcb⟩ := hb.xt (by rw [HM.out]; omega)
        obtain ⟨p, hp⟩ : ∃ p, L[k]? = some p := ⟨_, List.getElem?_eq_getElem (by rw [HL.out]; exact h1)⟩
        obtain ⟨r, hr⟩ : ∃ r, M[k]? = some r := ⟨_, List.getElem?_eq_getElem (by rw [HM.out]; exact h1)⟩
        obtain ⟨e1, e2⟩ := hca k p hp
        obtain ⟨e3, e4⟩ := hcb k r hr
        have HP := Lib.hid hp
        have HR := Lib.hid hr
        clear hca hcb hp hr
        by_cases he : p = r
        · subst he
          have hE := fun w => eqXt p.key p.val p.key p.val w
          rw [eqX1_yes] at hE
          have hs' := Lib.hid (hs.out.more (HP.out.trans HR.out.symm))
          go_wp2_with (fail)
          go_quiet (fail)
          go_wp2_with (fail)
          go_roundw
          case rel => exact ⟨k + 1, by go_num, by omega, hs', _, rfl⟩
          case measure => simp [intOf]; omega
        · have hE := fun w => eqXt p.key p.val r.key r.val w
          rw [eqX1_no he] at hE
          have HV := Lib.hid (xrowsB_at HP.out HR.out he)
          clear he
          go_wp2_with (fail)
          go_quiet (fail)
          go_wp2_with (fail)
          go_ret
          rw [HV.out, World.drewN_drewN]
          exact Q.of
      · obtain rfl : k = n := by omega
        have HV : Hid (xrowsB L M = true) := Lib.hid (xrowsB_iff.2 (by have h := hs.out; rw [← HL.out] at h; exact h.eq (HL.out.trans HM.out.symm)))
        go_wp2_with (fail)
        go_ret
        rw [HV.out]
        exact Q.of
  · have HV : Hid (xrowsB L M = false) := Lib.hid (xrowsB_no (by rintro rfl; exact hn rfl))
    have hne : ((L.length : Int) == (M.length : Nat)) = false := by rw [beq_eq_false_iff_ne]; omega
    go_enter Try.func30, Try.ntmps30
    go_wp2_with (fail)
    go_ret
    rw [HV.out]
    exact Q.self
end Go.Proofs.Ytgdiiicaljidpaa
/- Attributes as values and as blocks. -/
set_option linter.unusedSimpArgs false
set_option linter.unusedVariables false
namespace Go.Proofs.Ytgdiiicaljidpaa
open Go.RowKit WordMath
/-- Where the rows of attributes lie. -/
structure ALie where
  p : Lie
  q : Lie
  X : Option Addr
  n : Nat
abbrev At.c (x : At) (p : ALie) : Array Value :=
  #[.int .u8 (x.bi : Nat), .int .u16 (x.ui : Nat), .int .u16 (x.gi : Nat),
    .int .u8 (x.ac.ow : Nat), .int .u8 (x.ac.gr : Nat), .int .u8 (x.ac.ot : Nat), .slice p.p.A x.ac.us.length p.p.c, .slice p.p.B x.ac.gs.length p.p.d, .bool x.ac.hm, .int .u8 (x.ac.ms : Nat),
    .bool x.hd,
    .int .u8 (x.df.ow : Nat), .int .u8 (x.df.gr : Nat), .int .u8 (x.df.ot : Nat), .slice p.q.A x.df.us.length p.q.c, .slice p.q.B x.df.gs.length p.q.d, .bool x.df.hm, .int .u8 (x.df.ms : Nat),
    .slice p.X x.xs.length p.n]
abbrev At.v (x : At) (p : ALie) : Value := .agg (x.c p)
/-- Its rows, in memory. -/
structure ALies (w : World) (x : At) (p : ALie) : Prop where
  ac : Lies w x.ac p.p
  df : Lies w x.df p.q
  xs : Cel w p.X (xv x.xs)
theorem ALies.below {w w' : World} {x : At} {p : ALie} (h : ALies w x p) (hb : Below w.heap.size w w') : ALies w' x p := ⟨h.ac.below hb, h.df.below hb, h.xs.below hb⟩
/-- Small enough. -/
structure ASm (x : At) : Prop where
  ac : Sm x.ac
  df : Sm x.df
  xs : x.xs.length ≤ 1099511627776
/-- A block of attributes. -/
def Bt (w : World) (b : Nat) (x : At) (p : ALie) : Prop := w.heap[b]? = some (.cells (x.c p) 31 (0, 0))
section
variable {w w' : World} {b : Nat} {x : At} {p : ALie}
theorem Bt.new (w : World) (x : At) (p : ALie) : Bt (w.alloc (.cells (x.c p) 31)) w.heap.size x p := heap_alloc_new w _
theorem Bt.lt (h : Bt w b x p) : b < w.heap.size := lt_of_cells h
theorem Bt.on (h : Bt w b x p) (hb : Below w.heap.size w w') : Bt w' b x p := (hb.block b h.lt).trans h
theorem Bt.keep {F : Nat → Prop} (h : Bt w b x p) (ho : Only F w w') (hF : ¬ F b) : Bt w' b x p := (ho.block b h.lt hF).trans h
theorem Bt.cell (h : Bt w b x p) (k : Nat) : w.cell? ⟨b, k, none⟩ = (x.c p)[k]? := by
  unfold Bt at h
  simp [World.cell?, h]
theorem Bt.frozen (h : Bt w b x p) (k : Nat) : w.frozen? ⟨b, k, none⟩ = false := by
  unfold Bt at h
  simp [World.frozen?, h]
theorem Bt.c0 (h : Bt w b x p) : w.cell? ⟨b, 0, none⟩ = some (.int .u8 (x.bi : Nat)) := h.cell 0
theorem Bt.c1 (h : Bt w b x p) : w.cell? ⟨b, 1, none⟩ = some (.int .u16 (x.ui : Nat)) := h.cell 1
theorem Bt.c2 (h : Bt w b x p) : w.cell? ⟨b, 2, none⟩ = some (.int .u16 (x.gi : Nat)) := h.cell 2
theorem Bt.c10 (h : Bt w b x p) : w.cell? ⟨b, 10, none⟩ = some (.bool x.hd) := h.cell 10
theorem Bt.c18 (h : Bt w b x p) : w.cell? ⟨b, 18, none⟩ = some (.slice p.X x.xs.length p.n) := h.cell 18
theorem Bt.c6 (h : Bt w b x p) : w.cell? ⟨b, 6, none⟩ = some (.slice p.p.A x.ac.us.length p.p.c) := h.cell 6
theorem Bt.c7 (h : Bt w b x p) : w.cell? ⟨b, 7, none⟩ = some (.slice p.p.B x.ac.gs.length p.p.d) := h.cell 7
theorem Bt.c14 (h : Bt w b x p) : w.cell? ⟨b, 14, none⟩ = some (.slice p.q.A x.df.us.length p.q.c) := h.cell 14
theorem Bt.c15 (h : Bt w b x p) : w.cell? ⟨b, 15, none⟩ = some (.slice p.q.B x.df.gs.length p.q.d) := h.cell 15
/-- The cells of the list that stands at o: 3, or 11. -/
theorem Bt.ac (h : Bt w b x p) : ∀ j u, (x.ac.c p.p).toList[j]? = some u → w.cell? ⟨b, 3 + j, none⟩ = some u := fun j u hu => by
  rw [h.cell]
  have hj : j < 7 := (List.getElem?_eq_some_iff.1 hu).1
  obtain rfl | rfl | rfl | rfl | rfl | rfl | rfl : j = 0 ∨ j = 1 ∨ j = 2 ∨ j = 3 ∨ j = 4 ∨ j = 5 ∨ j = 6 := by omega
  all_goals exact hu
theorem Bt.df (h : Bt w b x p) : ∀ j u, (x.df.c p.q).toList[j]? = some u → w.cell? ⟨b, 11 + j, none⟩ = some u := fun j u hu => by
  rw [h.cell]
  have hj : j < 7 := (List.getElem?_eq_some_iff.1 hu).1
  obtain rfl | rfl | rfl | rfl | rfl | rfl | rfl : j = 0 ∨ j = 1 ∨ j = 2 ∨ j = 3 ∨ j = 4 ∨ j = 5 ∨ j = 6 := by omega
  all_goals exact hu
theorem Bt.bt0 (h : Bt w b x p) : ∀ j u, (x.c p).toList[j]? = some u → w.cell? ⟨b, 0 + j, none⟩ = some u := fun j u hu => by
  rw [Nat.zero_add, h.cell]
  simpa using hu
end
section
variable {P : Program}
theorem run_loadVar_part (w : World) (ty : TypeId) (g o : Nat) (cs : List Value) (d : TypeDesc) (hc : ∀ j u, cs[j]? = some u → w.cell? ⟨g, o + j, none⟩ = some u)
    (hu : P.underlying ty = some d) (hd : (match d with | .struct _ | .array _ _ => true | _ => false) = true) (hi : (P.info? ty).map (·.size) = some cs.length) :
    (loadVar ty ⟨g, o, none⟩).run P w = .ok (.agg cs.toArray) w := by
  have hl : (loadCells ⟨g, o, none⟩ cs.length).run P w = .ok cs.toArray w :=
    run_loadCells_list (P := P) w ⟨g, o, none⟩ cs (fun j v hv => by
      have hadd : (⟨g, o, none⟩ : Addr).add j = ⟨g, o + j, none⟩ := by unfold Addr.add; split <;> simp_all
      rw [hadd]
      exact hc j v hv)
  cases hq : P.info? ty with
  | none => simp [hq] at hi
  | some i =>
    have hs : i.size = cs.length := by simpa [hq] using hi
    have hagg : (isAgg ty).run P w = .ok true w := by
      unfold isAgg
      rw [Sem.run_bind, run_underlying hu w]
      cases d <;> simp_all
    simp [loadVar, Sem.run_bind, hagg, sizeOf, typeInfo, hq, hs, hl]
/-- A part of a block is loaded whole. -/
theorem wpList_load_part {ops : Array Oper} {rest : List Oper} {o : Oper} {a : Act} {w : World} {Q : Exit → Act → World → Prop} (hgd : Region.wanted o (yielded ops a.tmps) = true) (ty : TypeId) (x : Operand) (ho : o.op = .load ty x)
    (g k : Nat) (hx : a.eval x = .pointer (some ⟨g, k, none⟩)) (cs : List Value) (d : TypeDesc) (hc : ∀ j u, cs[j]? = some u → w.cell? ⟨g, k + j, none⟩ = some u)
    (hu : P.underlying ty = some d) (hd : (match d with | .struct _ | .array _ _ => true | _ => false) = true) (hi : (P.info? ty).map (·.size) = some cs.length) (v : Value) (hv : v = .agg cs.toArray)
    (h : wpList P ops Q rest (a.put o.dst v) w) : wpList P ops Q (o :: rest) a w :=
  BigFrame.wpList_want hgd fun _ hK => by
    subst hv
    unfold Oper.wp execOp
    simp only [ho, hx, Instr.loadAt, Instr.sureAddr, Sem.run_bind, Sem.run_pure, Result.andThen_ok, run_loadVar_part w ty g k cs d hc hu hd hi]
    exact hK _ _ h
end
theorem acl_size : (Try.prog.info? 28).map (·.size) = some 7 := by kernel_rfl
theorem attr_size : (Try.prog.info? 31).map (·.size) = some 19 := by kernel_rfl
end Go.Proofs.Ytgdiiicaljidpaa
/- Keys that may be; rows of keys and values that may be. -/
set_option linter.unusedSimpArgs false
set_option linter.unusedVariables false
namespace Go.Proofs.Ytgdiiicaljidpaa
open Go.RowKit Go.Lib
theorem indexByte_neg (l : List UInt8) (b : UInt8) : Lib.indexByte l b < 0 ↔ b ∉ l := by
  induction l with
  | nil => simp [Lib.indexByte]
  | cons x l ih =>
    have h := Lib.indexByte_ge l b
    unfold Lib.indexByte
    by_cases hx : x = b
    · subst hx; simp
    · have hx2 : (x == b) = false := by simpa using hx
      have hx3 : ¬ b = x := fun e => hx e.symm
      rw [hx2]
      simp only [List.mem_cons, hx3, false_or, ← ih, Bool.false_eq_true, if_false]
      split
      · rename_i h1
        have : Lib.indexByte l b = -1 := by simpa using h1
        omega
      · rename_i h1
        have : ¬ Lib.indexByte l b = -1 := by simpa using h1
        omega
set_option maxRecDepth 100000 in
theorem slite_calls (s : ByteArray) (c : Int) (w : World) :
    Calls Try.prog 57 #[.string s, .int .u8 c] w fun e w' => e = .returned (.int .i64 (Lib.indexByte s.data.toList c.toNat.toUInt8)) ∧ w = w' := by
  go_enter Try.func57, Try.ntmps57
  go_wp2
  rw [run_callFunc_extern Try.func58 (by kernel_rfl) (by kernel_rfl) (by kernel_rfl) (e := Extern.BytealgIndexByte.indexByte) (by kernel_rfl), Lib.run_indexByteString]
  simp only [Result.andThen]
  rw [Oper.upon_value]
  go_wp2
  go_ret
  exact ⟨rfl, rfl⟩
set_option maxRecDepth 100000 in
theorem sindex_calls (s : ByteArray) (c : Int) (w : World) :
    Calls Try.prog 56 #[.string s, .int .u8 c] w fun e w' => e = .returned (.int .i64 (Lib.indexByte s.data.toList c.toNat.toUInt8)) ∧ w = w' := by
  go_enter Try.func56, Try.ntmps56
  go_wp2_with (go_at_call 57; refine (slite_calls _ _ _).mono ?_; rintro e w' ⟨rfl, rfl⟩)
  go_ret
  exact ⟨rfl, rfl⟩
/-- May there be a value under that key? -/
def keyB (s : ByteArray) : Bool := decide (0 < s.size) && (decide (s.size ≤ 8) && decide (Lib.indexByte s.data.toList 0 < 0))
theorem keyB_iff {s : ByteArray} : keyB s = true ↔ 0 < s.size ∧ s.size ≤ 8 ∧ (0 : UInt8) ∉ s.data.toList := by
  unfold keyB
  rw [Bool.and_eq_true, Bool.and_eq_true, decide_eq_true_eq, decide_eq_true_eq, decide_eq_true_eq, indexByte_neg]
theorem keyB_no {s : ByteArray} (h : ¬ (0 < s.size ∧ s.size ≤ 8 ∧ (0 : UInt8) ∉ s.data.toList)) : keyB s = false := by
  cases hb : keyB s
  · rfl
  · exact absurd (keyB_iff.1 hb) h
set_option maxRecDepth 100000 in
theorem mayKey_calls (s : ByteArray) (w : World) :
    Calls Try.prog 50 #[.string s] w fun e w' => e = .returned (.bool (keyB s)) ∧ w = w' := by
  by_cases h0 : 0 < s.size
  case neg =>
    have HV := Lib.hid (keyB_no (s := s) (fun h => h0 h.1))
    have d0 : decide ((0 : Int) < (s.size : Int)) = false := by rw [decide_eq_false_iff_not]; omega
    go_enter Try.func50, Try.ntmps50
    go_wp2_with (fail)
    go_ret
    exact ⟨by rw [HV.out]; rfl, rfl⟩
  case pos =>
  by_cases h8 : s.size ≤ 8
  case neg =>
    have HV := Lib.hid (keyB_no (s := s) (fun h => h8 h.2.1))
    have d0 : decide ((0 : Int) < (s.size : Int)) = true := by rw [decide_eq_true_eq]; omega
    have d1 : decide ((s.size : Int) ≤ 8) = false := by rw [decide_eq_false_iff_not]; omega
    go_enter Try.func50, Try.ntmps50
    go_wp2_with (fail)
    go_ret
    exact ⟨by rw [HV.out]; rfl, rfl⟩
  case pos =>
  have HV : Hid (keyB s = decide (Lib.indexByte s.data.toList 0 < 0)) := Lib.hid (by unfold keyB; rw [decide_eq_true h0, decide_eq_true h8, Bool.true_and, Bool.true_and])
  have d0 : decide ((0 : Int) < (s.size : Int)) = true := by rw [decide_eq_true_eq]; omega
  have d1 : decide ((s.size : Int) ≤ 8) = true := by rw [decide_eq_true_eq]; omega
  have hS := sindex_calls s 0 w
  rw [show (0 : Int).toNat.toUInt8 = 0 from rfl] at hS
  obtain ⟨i, hi⟩ : ∃ i, Lib.indexByte s.data.toList 0 = i := ⟨_, rfl⟩
  rw [hi] at hS
  have HI := Lib.hid hi
  clear hi
  go_enter Try.func50, Try.ntmps50
  go_wp2_with (fail)
  refine hS.mono ?_
  rintro e w' ⟨rfl, rfl⟩
  go_wp2_with (fail)
  go_ret
  exact ⟨by rw [HV.out, HI.out]; rfl, rfl⟩
set_option maxRecDepth 100000 in
theorem rkey_calls (s : ByteArray) (w : World) (hs : s.size ≤ 1099511627776) :
    Calls Try.prog 33 #[.string s] w (Q (.bool (keyB s)) w) := by
  go_enter Try.func33, Try.ntmps33
  go_wp2_with (fail)
  go_loopw [3] (fun i wr => ∃ k : Nat, i = .int .i64 k ∧ k ≤ s.size ∧ Hid (∀ j (hj : j < s.size), j < k → s[j] ≠ 0) ∧ ∃ q, wr = w.drewN q) (fun i _ => s.size - (intOf i).toNat)
  case atStart => exact ⟨0, rfl, by omega, Lib.hid (fun j hj h => absurd h (by omega)), 0, rfl⟩
  case round =>
    obtain ⟨k, rfl, hk, hR, q, rfl⟩ := hrel
    by_cases hks : k < s.size
    · by_cases h0 : s[k] = 0
      · have HV : Hid (keyB s = false) := Lib.hid (keyB_no fun h => h.2.2 (by
          have hm : s.data.toList[k]? = some s[k] := by rw [Array.getElem?_toList]; exact Array.getElem?_eq_getElem hks
          rw [h0] at hm
          exact List.mem_of_getElem? hm))
        have h0' : s[k].toNat = 0 := by rw [h0]; rfl
        clear h0
        go_wp2_with (fail)
        go_ret
        rw [HV.out]
        exact Q.of
      · have h0' : ((s[k].toNat : Int) == 0) = false := by
          rw [beq_eq_false_iff_ne]
          intro e
          exact h0 (UInt8.toNat_inj.1 (by simpa using e))
        have hR' := Lib.hid (show ∀ j (hj : j < s.size), j < k + 1 → s[j] ≠ 0 from fun j hj h => by
          by_cases e : j = k
          · subst e; exact h0
          · exact hR.out j hj (by omega))
        clear h0
        go_wp2_with (fail)
        go_roundw
        case rel => exact ⟨k + 1, by go_num, by omega, hR', q, rfl⟩
        case measure => simp [intOf]; omega
    · obtain rfl : k = s.size := by omega
      have hno : (0 : UInt8) ∉ s.data.toList := fun h => by
        obtain ⟨j, hj⟩ := List.getElem?_of_mem h
        have hl : j < s.size := by have := (List.getElem?_eq_some_iff.1 hj).1; simpa using this
        rw [Array.getElem?_toList] at hj
        have e : s.data[j]? = some s[j] := Array.getElem?_eq_getElem hl
        rw [e] at hj
        injection hj with hj
        exact hR.out j hl hl hj
      by_cases h0 : 1 ≤ s.size
      case neg =>
        have HV := Lib.hid (keyB_no (s := s) (fun h => h0 h.1))
        have d0 : decide ((1 : Int) ≤ (s.size : Int)) = false := by rw [decide_eq_false_iff_not]; omega
        clear h0 hno
        go_wp2_with (fail)
        go_ret
        rw [HV.out]
        exact Q.of
      case pos =>
      have HV : Hid (keyB s = decide ((s.size : Int) ≤ 8)) := Lib.hid (by
        by_cases h8 : s.size ≤ 8
        · rw [keyB_iff.2 ⟨h0, h8, hno⟩]; symm; rw [decide_eq_true_eq]; omega
        · rw [keyB_no fun h => h8 h.2.1]; symm; rw [decide_eq_false_iff_not]; omega)
      have d0 : decide ((1 : Int) ≤ (s.size : Int)) = true := by rw [decide_eq_true_eq]; omega
      clear h0 hno
      go_wp2_with (fail)
      go_ret
      rw [HV.out]
      exact Q.of
end Go.Proofs.Ytgdiiicaljidpaa
/- Which rows of keys and values may be. -/
set_option linter.unusedSimpArgs false
set_option linter.unusedVariables false
namespace Go.Proofs.Ytgdiiicaljidpaa
open Go.RowKit Go.Sort Go.Lib
abbrev ltS (a b : ByteArray) : Bool := Op.bytesLess a.toList b.toList
/-- So far they may be. -/
structure XRise (L : List Xt) (k : Nat) : Prop where
  ky : ∀ j p, j < k → L[j]? = some p → keyB p.key = true
  vl : ∀ j p, j < k → L[j]? = some p → p.val.size ≤ 16
  up : ∀ j p q, j + 1 < k → L[j]? = some p → L[j + 1]? = some q → ltS p.key q.key = true
theorem XRise.zero (L : List Xt) : XRise L 0 := ⟨fun j p h => absurd h (by omega), fun j p h => absurd h (by omega), fun j p q h => absurd h (by omega)⟩
theorem XRise.first {L : List Xt} {p : Xt} (hp : L[0]? = some p) (h1 : keyB p.key = true) (h2 : p.val.size ≤ 16) : XRise L 1 :=
  ⟨fun j q hj hq => by
      obtain rfl : j = 0 := by omega
      rw [hp] at hq; cases hq; exact h1, fun j q hj hq => by
      obtain rfl : j = 0 := by omega
      rw [hp] at hq; cases hq; exact h2, fun j p q h => absurd h (by omega)⟩
theorem XRise.more {L : List Xt} {k : Nat} {p q : Xt} (h : XRise L (k + 1)) (hp : L[k]? = some p) (hq : L[k + 1]? = some q) (h1 : keyB q.key = true) (h2 : q.val.size ≤ 16) (hlt : ltS p.key q.key = true) : XRise L (k + 2) :=
  ⟨fun j r hj hr => by
      by_cases hh : j < k + 1
      · exact h.ky j r hh hr
      · obtain rfl : j = k + 1 := by omega
        rw [hq] at hr; cases hr; exact h1,
   fun j r hj hr => by
      by_cases hh : j < k + 1
      · exact h.vl j r hh hr
      · obtain rfl : j = k + 1 := by omega
        rw [hq] at hr; cases hr; exact h2,
   fun j r s hj hr hs => by
      by_cases hh : j + 1 < k + 1
      · exact h.up j r s hh hr hs
      · obtain rfl : j = k := by omega
        rw [hp] at hr; rw [hq] at hs; cases hr; cases hs; exact hlt⟩
def riseX (L : List Xt) : Bool := (L.all fun p => keyB p.key && decide (p.val.size ≤ 16)) && (List.range L.length).all fun j => match L[j]?, L[j + 1]? with
  | some p, some q => ltS p.key q.key
  | _, _ => true
theorem riseX_iff {L : List Xt} : riseX L = true ↔ XRise L L.length := by
  unfold riseX
  rw [Bool.and_eq_true, List.all_eq_true, List.all_eq_true]
  constructor
  · rintro ⟨h1, h2⟩
    have h3 : ∀ (j : Nat) (p : Xt), L[j]? = some p → keyB p.key = true ∧ p.val.size ≤ 16 := fun j p hp => by
      have := h1 p (List.mem_of_getElem? hp)
      rw [Bool.and_eq_true, decide_eq_true_eq] at this
      exact this
    refine ⟨fun j p hj hp => (h3 j p hp).1, fun j p hj hp => (h3 j p hp).2, fun j p q hj hp hq => ?_⟩
    have := h2 j (List.mem_range.2 (by omega))
    rw [hp, hq] at this
    exact this
  · intro h
    refine ⟨fun p hp => ?_, fun j hj => ?_⟩
    · obtain ⟨k, hk⟩ := List.getElem?_of_mem hp
      have hl := (List.getElem?_eq_some_iff.1 hk).1
      rw [Bool.and_eq_true, decide_eq_true_eq]
      exact ⟨h.ky k p hl hk, h.vl k p hl hk⟩
    · cases hp : L[j]? with
      | none => rfl
      | some p =>
        cases hq : L[j + 1]? with
        | none => rfl
        | some q => exact h.up j p q (List.getElem?_eq_some_iff.1 hq).1 hp hq
def xsB (L : List Xt) : Bool := riseX L && decide (L.length ≤ 4)
theorem xsB_iff {L : List Xt} : xsB L = true ↔ XRise L L.length ∧ L.length ≤ 4 := by
  unfold xsB
  rw [Bool.and_eq_true, riseX_iff, decide_eq_true_eq]
theorem xsB_no {L : List Xt} (h : ¬ (XRise L L.length ∧ L.length ≤ 4)) : xsB L = false := by
  cases hb : xsB L
  · rfl
  · exact absurd (xsB_iff.1 hb) h
theorem xsB_key {L : List Xt} {k : Nat} {p : Xt} (hp : L[k]? = some p) (h : keyB p.key = false) : xsB L = false :=
  xsB_no fun ⟨h1, _⟩ => by have := h1.ky k p (List.getElem?_eq_some_iff.1 hp).1 hp; rw [h] at this; cases this
theorem xsB_val {L : List Xt} {k : Nat} {p : Xt} (hp : L[k]? = some p) (h : 16 < p.val.size) : xsB L = false :=
  xsB_no fun ⟨h1, _⟩ => by have := h1.vl k p (List.getElem?_eq_some_iff.1 hp).1 hp; omega
theorem xsB_up {L : List Xt} {k : Nat} {p q : Xt} (hp : L[k]? = some p) (hq : L[k + 1]? = some q) (h : ltS p.key q.key = false) : xsB L = false :=
  xsB_no fun ⟨h1, _⟩ => by have := h1.up k p q (List.getElem?_eq_some_iff.1 hq).1 hp hq; rw [h] at this; cases this
theorem xsB_long {L : List Xt} (h : 4 < L.length) : xsB L = false := xsB_no fun ⟨_, h2⟩ => by omega
set_option maxRecDepth 100000 in
set_option maxHeartbeats 4000000 in
theorem validXattrs_calls (A : Option Addr) (L : List Xt) (c : Nat) (w : World) (hc : Cel w A (xv L)) :
    Calls Try.prog 45 #[.slice A L.length c] w fun e w' => e = .returned (.bool (xsB L)) ∧ Below w.heap.size w w' := by
  obtain ⟨n, hn⟩ : ∃ n, L.length = n := ⟨_, rfl⟩
  have HN := Lib.hid hn
  rw [hn]
  clear hn
  by_cases h4 : n ≤ 4
  case neg =>
    have HV := Lib.hid (xsB_long (L := L) (by have := HN.out; omega))
    have h4' : (4 : Int) < (n : Int) := by omega
    go_enter Try.func45, Try.ntmps45
    go_wp2_with (fail)
    go_ret
    exact ⟨by rw [HV.out]; rfl, Below.refl _ _⟩
  case pos =>
  have h4' : ¬ (4 : Int) < (n : Int) := by omega
  go_enter Try.func45, Try.ntmps45
  go_wp2_with (fail)
  go_loopw [10] (fun i wr => ∃ k : Nat, i = .int .i64 k ∧ k ≤ n ∧ Hid (XRise L k) ∧ Below w.heap.size w wr) (fun i _ => n - (intOf i).toNat)
  case atStart => exact ⟨0, rfl, by omega, Lib.hid (XRise.zero L), Below.refl _ _⟩
  case round =>
    obtain ⟨k, rfl, hk, hR, hbw⟩ := hrel
    by_cases hkn : k < n
    · obtain ⟨b, o, rfl, hlt, hcell⟩ := (hc.below hbw).xt (by rw [HN.out]; omega)
      obtain ⟨p, hp⟩ : ∃ p, L[k]? = some p := ⟨_, List.getElem?_eq_getElem (by rw [HN.out]; exact hkn)⟩
      obtain ⟨e1, e2⟩ := hcell k p hp
      have HP := Lib.hid hp
      have HBW := Lib.hid hbw
      clear hp hbw
      generalize hpi : p.key = pk at *
      generalize hpp : p.val = pv at *
      have HPI := Lib.hid hpi
      have HPP := Lib.hid hpp
      clear hpi hpp
      have hK := mayKey_calls pk
      cases hkb : keyB pk
      case false =>
        rw [hkb] at hK
        have HV := Lib.hid (xsB_key HP.out (by rw [HPI.out]; exact hkb))
        clear hkb hcell
        go_wp2_with (fail)
        obtain ⟨V, hV⟩ : ∃ V, V = wr.alloc (Obj.cells #[.string pk, .string pv] 63) := ⟨_, rfl⟩
        rw [← hV]
        have hAB : Below wr.heap.size wr V := by rw [hV]; exact (Below.refl _ _).alloc (Nat.le_refl _) _
        have HBV := Lib.hid (HBW.out.trans (hAB.mono HBW.out.size))
        obtain ⟨q0, q1⟩ := two_cells (w0 := V) (B := wr.heap.size) (x := .string pk) (y := .string pv) (t := 63) (by rw [hV]; exact heap_alloc_new _ _)
        have k0 := cell_regrown q0
        have k1 := cell_regrown q1
        have cM : ∀ dq os, Calls Try.prog 50 #[.string pk] (grow (redrawn V dq) os) fun e w'' => e = .returned (.bool false) ∧ ∃ p : Regrown, w'' = grow (redrawn V p.d) p.os := fun dq os => Calls.regrown_of ((hK _).mono fun e w1 h => ⟨h.1, h.2 ▸ Below.refl _ _⟩)
        clear hV hAB e1 e2 q0 q1
        refine wp_region_quiet_below (by kernel_rfl) (by kernel_rfl) ?_
        repeat (first | go_big_quiet_step (first | exact cM _ _) | quiet_step (first | exact cM _ _))
        refine wpQuiet_nil ?_
        intro _ hw'
        obtain ⟨⟨dq, osq⟩, hw''⟩ := hw'
        subst hw''
        go_wp2_with (fail)
        go_ret
        exact ⟨by rw [HV.out]; rfl, HBV.out.trans ((below_regrown V dq osq).mono HBV.out.size)⟩
      case true =>
      rw [hkb] at hK
      have HKB := Lib.hid hkb
      clear hkb
      by_cases h16 : pv.size ≤ 16
      case neg =>
        have HV := Lib.hid (xsB_val HP.out (by rw [HPP.out]; omega))
        have d1 : decide ((16 : Int) < (pv.size : Int)) = true := by rw [decide_eq_true_eq]; omega
        clear hcell h16
        go_wp2_with (fail)
        obtain ⟨V, hV⟩ : ∃ V, V = wr.alloc (Obj.cells #[.string pk, .string pv] 63) := ⟨_, rfl⟩
        rw [← hV]
        have hAB : Below wr.heap.size wr V := by rw [hV]; exact (Below.refl _ _).alloc (Nat.le_refl _) _
        have HBV := Lib.hid (HBW.out.trans (hAB.mono HBW.out.size))
        obtain ⟨q0, q1⟩ := two_cells (w0 := V) (B := wr.heap.size) (x := .string pk) (y := .string pv) (t := 63) (by rw [hV]; exact heap_alloc_new _ _)
        have k0 := cell_regrown q0
        have k1 := cell_regrown q1
        have cM : ∀ dq os, Calls Try.prog 50 #[.string pk] (grow (redrawn V dq) os) fun e w'' => e = .returned (.bool true) ∧ ∃ p : Regrown, w'' = grow (redrawn V p.d) p.os := fun dq os => Calls.regrown_of ((hK _).mono fun e w1 h => ⟨h.1, h.2 ▸ Below.refl _ _⟩)
        clear hV hAB e1 e2 q0 q1
        refine wp_region_quiet_below (by kernel_rfl) (by kernel_rfl) ?_
        repeat (first | go_big_quiet_step (first | exact cM _ _) | quiet_step (first | exact cM _ _))
        refine wpQuiet_nil ?_
        intro _ hw'
        obtain ⟨⟨dq, osq⟩, hw''⟩ := hw'
        subst hw''
        go_wp2_with (fail)
        go_ret
        exact ⟨by rw [HV.out]; rfl, HBV.out.trans ((below_regrown V dq osq).mono HBV.out.size)⟩
      case pos =>
      have d1 : decide ((16 : Int) < (pv.size : Int)) = false := by rw [decide_eq_false_iff_not]; omega
      cases k with
      | zero =>
        have HR2 := Lib.hid (XRise.first HP.out (by rw [HPI.out]; exact HKB.out) (by rw [HPP.out]; exact h16))
        simp only [Nat.zero_mul, Nat.add_zero] at e1 e2
        clear hcell h16
        go_wp2_with (fail)
        obtain ⟨V, hV⟩ : ∃ V, V = wr.alloc (Obj.cells #[.string pk, .string pv] 63) := ⟨_, rfl⟩
        rw [← hV]
        have hAB : Below wr.heap.size wr V := by rw [hV]; exact (Below.refl _ _).alloc (Nat.le_refl _) _
        have HBV := Lib.hid (HBW.out.trans (hAB.mono HBW.out.size))
        obtain ⟨q0, q1⟩ := two_cells (w0 := V) (B := wr.heap.size) (x := .string pk) (y := .string pv) (t := 63) (by rw [hV]; exact heap_alloc_new _ _)
        have k0 := cell_regrown q0
        have k1 := cell_regrown q1
        have cM : ∀ dq os, Calls Try.prog 50 #[.string pk] (grow (redrawn V dq) os) fun e w'' => e = .returned (.bool true) ∧ ∃ p : Regrown, w'' = grow (redrawn V p.d) p.os := fun dq os => Calls.regrown_of ((hK _).mono fun e w1 h => ⟨h.1, h.2 ▸ Below.refl _ _⟩)
        clear hV hAB e1 e2 q0 q1
        refine wp_region_quiet_below (by kernel_rfl) (by kernel_rfl) ?_
        repeat (first | go_big_quiet_step (first | exact cM _ _) | quiet_step (first | exact cM _ _))
        refine wpQuiet_nil ?_
        intro _ hw'
        obtain ⟨⟨dq, osq⟩, hw''⟩ := hw'
        subst hw''
        go_wp2_with (fail)
        go_roundw
        case rel => exact ⟨1, by go_num, by omega, HR2, HBV.out.trans ((below_regrown V dq osq).mono HBV.out.size)⟩
        case measure => simp [intOf]; omega
      | succ k =>
        obtain ⟨r, hr⟩ : ∃ r, L[k]? = some r := ⟨_, List.getElem?_eq_getElem (by rw [HN.out]; omega)⟩
        obtain ⟨e3, e4⟩ := hcell k r hr
        have HR1 := Lib.hid hr
        generalize hri : r.key = rk at *
        have HRI := Lib.hid hri
        have h0 : decide ((0 : Int) < ((k + 1 : Nat) : Int)) = true := by rw [decide_eq_true_eq]; omega
        have h0' : decide ((0 : Int) < (k : Int) + 1) = true := by rw [decide_eq_true_eq]; omega
        have hk1 : (k : Int) + 1 - 1 = (k : Int) := by omega
        clear hcell hr hri
        cases hlt2 : ltS rk pk
        case false =>
          have HV := Lib.hid (xsB_up HR1.out HP.out (by rw [HPI.out, HRI.out]; exact hlt2))
          clear h16
          go_wp2_with (fail)
          obtain ⟨V, hV⟩ : ∃ V, V = wr.alloc (Obj.cells #[.string pk, .string pv] 63) := ⟨_, rfl⟩
          rw [← hV]
          have hAB : Below wr.heap.size wr V := by rw [hV]; exact (Below.refl _ _).alloc (Nat.le_refl _) _
          have HBV := Lib.hid (HBW.out.trans (hAB.mono HBW.out.size))
          obtain ⟨q0, q1⟩ := two_cells (w0 := V) (B := wr.heap.size) (x := .string pk) (y := .string pv) (t := 63) (by rw [hV]; exact heap_alloc_new _ _)
          have g3 := (hAB.cell (p := ⟨b, o + k * 2, none⟩) hlt).trans e3
          clear e3 e4
          have k0 := cell_regrown q0
          have k1 := cell_regrown q1
          have k2 := cell_regrown g3
          clear g3
          have cM : ∀ dq os, Calls Try.prog 50 #[.string pk] (grow (redrawn V dq) os) fun e w'' => e = .returned (.bool true) ∧ ∃ p : Regrown, w'' = grow (redrawn V p.d) p.os := fun dq os => Calls.regrown_of ((hK _).mono fun e w1 h => ⟨h.1, h.2 ▸ Below.refl _ _⟩)
          clear hV hAB e1 e2 q0 q1
          refine wp_region_quiet_below (by kernel_rfl) (by kernel_rfl) ?_
          repeat (first | go_big_quiet_step (first | exact cM _ _) | quiet_step (first | exact cM _ _))
          refine wpQuiet_nil ?_
          intro _ hw'
          obtain ⟨⟨dq, osq⟩, hw''⟩ := hw'
          subst hw''
          go_wp2_with (fail)
          go_ret
          exact ⟨by rw [HV.out]; rfl, HBV.out.trans ((below_regrown V dq osq).mono HBV.out.size)⟩
        case true =>
          have HR2 := Lib.hid (hR.out.more HR1.out HP.out (by rw [HPI.out]; exact HKB.out) (by rw [HPP.out]; exact h16) (by rw [HPI.out, HRI.out]; exact hlt2))
          clear h16
          go_wp2_with (fail)
          obtain ⟨V, hV⟩ : ∃ V, V = wr.alloc (Obj.cells #[.string pk, .string pv] 63) := ⟨_, rfl⟩
          rw [← hV]
          have hAB : Below wr.heap.size wr V := by rw [hV]; exact (Below.refl _ _).alloc (Nat.le_refl _) _
          have HBV := Lib.hid (HBW.out.trans (hAB.mono HBW.out.size))
          obtain ⟨q0, q1⟩ := two_cells (w0 := V) (B := wr.heap.size) (x := .string pk) (y := .string pv) (t := 63) (by rw [hV]; exact heap_alloc_new _ _)
          have g3 := (hAB.cell (p := ⟨b, o + k * 2, none⟩) hlt).trans e3
          clear e3 e4
          have k0 := cell_regrown q0
          have k1 := cell_regrown q1
          have k2 := cell_regrown g3
          clear g3
          have cM : ∀ dq os, Calls Try.prog 50 #[.string pk] (grow (redrawn V dq) os) fun e w'' => e = .returned (.bool true) ∧ ∃ p : Regrown, w'' = grow (redrawn V p.d) p.os := fun dq os => Calls.regrown_of ((hK _).mono fun e w1 h => ⟨h.1, h.2 ▸ Below.refl _ _⟩)
          clear hV hAB e1 e2 q0 q1
          refine wp_region_quiet_below (by kernel_rfl) (by kernel_rfl) ?_
          repeat (first | go_big_quiet_step (first | exact cM _ _) | quiet_step (first | exact cM _ _))
          refine wpQuiet_nil ?_
          intro _ hw'
          obtain ⟨⟨dq, osq⟩, hw''⟩ := hw'
          subst hw''
          go_wp2_with (fail)
          go_roundw
          case rel => exact ⟨k + 2, by go_num, by omega, HR2, HBV.out.trans ((below_regrown V dq osq).mono HBV.out.size)⟩
          case measure => simp [intOf]; omega
    · obtain rfl : k = n := by omega
      have HV : Hid (xsB L = true) := Lib.hid (xsB_iff.2 (⟨by have h := hR.out; rw [← HN.out] at h; exact h, by rw [HN.out]; exact h4⟩))
      go_wp2_with (fail)
      go_ret
      exact ⟨by rw [HV.out]; rfl, hbw⟩
end Go.Proofs.Ytgdiiicaljidpaa
/- Which attributes may be. -/
set_option linter.unusedSimpArgs false
set_option linter.unusedVariables false
namespace Go.Proofs.Ytgdiiicaljidpaa
open Go.RowKit
/-- May a list for what is begun be, or none? May such attributes be? -/
def defB (h : Bool) (d : Ac) : Bool := mayB d && (h || sameB d acZ)
/-- What Check answers. -/
def ckN (b : Bool) : Int := if b then 0 else 622
def amayB (x : At) : Bool := decide (x.bi ≤ 7) && (mayB x.ac && (defB x.hd x.df && xsB x.xs))
theorem lies_acZ (w : World) : Lies w acZ lieZ := ⟨Cel.nil _ _, Cel.nil _ _⟩
theorem sm_acZ : Sm acZ := ⟨by decide, by decide⟩
theorem sm_of_4 {x : Ac} (h1 : x.us.length ≤ 4) (h2 : x.gs.length ≤ 4) : Sm x := ⟨by omega, by omega⟩
theorem Ab.part {w : World} {b : Nat} {x : Ac} {p : Lie} (h : Ab w b x p) : ∀ j u, (x.c p).toList[j]? = some u → w.cell? ⟨b, 0 + j, none⟩ = some u := fun j u hu => by
  rw [Nat.zero_add, h.cell]
  simpa using hu
set_option maxRecDepth 100000 in
theorem validDef_calls (h : Bool) (d : Ac) (q : Lie) (w : World) (hl : Lies w d q) (hs : Sm d) :
    Calls Try.prog 44 #[.bool h, d.v q] w fun e w' => e = .returned (.bool (defB h d)) ∧ Below w.heap.size w w' := by
  obtain ⟨V, hV⟩ : ∃ V, V = w.alloc (.cells (d.c q) 28) := ⟨_, rfl⟩
  have hb : Below w.heap.size w V := by rw [hV]; exact (Below.refl _ _).alloc (Nat.le_refl _) _
  have hz : Ab V w.heap.size d q := by rw [hV]; exact Ab.new w d q
  have HZ := Lib.hid hz
  have HB := Lib.hid hb
  have HL := Lib.hid (hl.below hb)
  have c := check_calls d q V HL.out hs
  clear hl hz hb
  cases hm : mayB d
  case false =>
    rw [hm] at c
    have HV : Hid (defB h d = false) := Lib.hid (by unfold defB; rw [hm]; rfl)
    have HC := Lib.hid c
    clear hm c
    go_enter Try.func44, Try.ntmps44
    go_upto_region 1 with (fail)
    rw [← hV]
    clear hV
    go_wp2_with (refine wpList_load_part rfl 28 (.tmp 3) rfl w.heap.size 0 rfl (d.c q).toList _ HZ.out.part Try.underlying28 rfl acl_size (d.v q) rfl ?_)
    refine HC.out.mono ?_
    rintro e w1 ⟨rfl, hb1⟩
    have HB1 := Lib.hid (HB.out.trans (hb1.mono HB.out.size))
    clear hb1
    go_wp2_with (fail)
    go_ret
    exact ⟨by rw [HV.out]; rfl, HB1.out⟩
  case true =>
  rw [hm] at c
  have HV : Hid (defB h d = (h || sameB d acZ)) := Lib.hid (by unfold defB; rw [hm, Bool.true_and])
  have HC := Lib.hid c
  have HS := Lib.hid hs
  clear hm c
  cases h
  case true =>
    have HV2 : Hid (defB true d = true) := Lib.hid (by rw [HV.out]; rfl)
    go_enter Try.func44, Try.ntmps44
    go_upto_region 1 with (fail)
    rw [← hV]
    clear hV
    go_wp2_with (refine wpList_load_part rfl 28 (.tmp 3) rfl w.heap.size 0 rfl (d.c q).toList _ HZ.out.part Try.underlying28 rfl acl_size (d.v q) rfl ?_)
    refine HC.out.mono ?_
    rintro e w1 ⟨rfl, hb1⟩
    have HB1 := Lib.hid (HB.out.trans (hb1.mono HB.out.size))
    clear hb1
    go_wp2_with (fail)
    go_ret
    exact ⟨by rw [HV2.out]; rfl, HB1.out⟩
  case false =>
    have HV2 : Hid (defB false d = sameB d acZ) := Lib.hid (by rw [HV.out]; rfl)
    go_enter Try.func44, Try.ntmps44
    go_upto_region 1 with (fail)
    rw [← hV]
    clear hV
    go_wp2_with (refine wpList_load_part rfl 28 (.tmp 3) rfl w.heap.size 0 rfl (d.c q).toList _ HZ.out.part Try.underlying28 rfl acl_size (d.v q) rfl ?_)
    refine HC.out.mono ?_
    rintro e w1 ⟨rfl, hb1⟩
    have HB1 := Lib.hid (HB.out.trans (hb1.mono HB.out.size))
    have HZ1 := Lib.hid (HZ.out.on hb1)
    have HL1 := Lib.hid (HL.out.below hb1)
    clear hb1
    go_wp2_with (refine wpList_load_part rfl 28 (.tmp 3) rfl w.heap.size 0 rfl (d.c q).toList _ HZ1.out.part Try.underlying28 rfl acl_size (d.v q) rfl ?_)
    refine (lsame_calls d acZ q lieZ w1 HL1.out (lies_acZ _) HS.out sm_acZ).mono ?_
    rintro e w2 ⟨rfl, hb2⟩
    have HB2 := Lib.hid (HB1.out.trans (hb2.mono HB1.out.size))
    clear hb2
    go_wp2_with (fail)
    go_ret
    exact ⟨by rw [HV2.out]; rfl, HB2.out⟩
set_option maxRecDepth 100000 in
set_option maxHeartbeats 1000000 in
theorem acheck_calls (x : At) (p : ALie) (w : World) (h : ALies w x p) (hs : ASm x) :
    Calls Try.prog 37 #[x.v p] w fun e w' => e = .returned (.int .i64 (ckN (amayB x))) ∧ Below w.heap.size w w' := by
  obtain ⟨V, hV⟩ : ∃ V, V = w.alloc (.cells (x.c p) 31) := ⟨_, rfl⟩
  have hb : Below w.heap.size w V := by rw [hV]; exact (Below.refl _ _).alloc (Nat.le_refl _) _
  have hz : Bt V w.heap.size x p := by rw [hV]; exact Bt.new w x p
  have HZ := Lib.hid hz
  have HB := Lib.hid hb
  have HL := Lib.hid (h.below hb)
  have HS := Lib.hid hs
  have y0 := hz.c0
  clear h hz hb hs
  by_cases hbi : x.bi ≤ 7
  case neg =>
    have HV : Hid (amayB x = false) := Lib.hid (by unfold amayB; rw [decide_eq_false hbi]; rfl)
    have d0 : decide ((7 : Int) < (x.bi : Int)) = true := by rw [decide_eq_true_eq]; omega
    go_enter Try.func37, Try.ntmps37
    go_upto_region 1 with (fail)
    rw [← hV]
    clear hV
    go_wp2_with (fail)
    go_ret
    exact ⟨by rw [HV.out]; rfl, HB.out⟩
  case pos =>
  have d0 : decide ((7 : Int) < (x.bi : Int)) = false := by rw [decide_eq_false_iff_not]; omega
  have HV0 : Hid (amayB x = (mayB x.ac && (defB x.hd x.df && xsB x.xs))) := Lib.hid (by unfold amayB; rw [decide_eq_true hbi, Bool.true_and])
  clear hbi
  have c := check_calls x.ac p.p V HL.out.ac HS.out.ac
  cases hm : mayB x.ac
  case false =>
    rw [hm] at c
    have HV : Hid (amayB x = false) := Lib.hid (by rw [HV0.out, hm]; rfl)
    have HC := Lib.hid c
    clear hm c
    go_enter Try.func37, Try.ntmps37
    go_upto_region 1 with (fail)
    rw [← hV]
    clear hV
    go_wp2_with (refine wpList_load_part rfl 28 (.tmp 7) rfl w.heap.size 3 rfl (x.ac.c p.p).toList _ HZ.out.ac Try.underlying28 rfl acl_size (x.ac.v p.p) rfl ?_)
    refine HC.out.mono ?_
    rintro e w1 ⟨rfl, hb1⟩
    have HB1 := Lib.hid (HB.out.trans (hb1.mono HB.out.size))
    clear hb1
    go_wp2_with (fail)
    go_ret
    exact ⟨by rw [HV.out]; rfl, HB1.out⟩
  case true =>
  rw [hm] at c
  have HV1 : Hid (amayB x = (defB x.hd x.df && xsB x.xs)) := Lib.hid (by rw [HV0.out, hm, Bool.true_and])
  have HC := Lib.hid c
  clear hm c HV0
  go_enter Try.func37, Try.ntmps37
  go_upto_region 1 with (fail)
  rw [← hV]
  clear hV
  go_wp2_with (refine wpList_load_part rfl 28 (.tmp 7) rfl w.heap.size 3 rfl (x.ac.c p.p).toList _ HZ.out.ac Try.underlying28 rfl acl_size (x.ac.v p.p) rfl ?_)
  refine HC.out.mono ?_
  rintro e w1 ⟨rfl, hb1⟩
  have HB1 := Lib.hid (HB.out.trans (hb1.mono HB.out.size))
  have HZ1 := Lib.hid (HZ.out.on hb1)
  have HL1 := Lib.hid (HL.out.below hb1)
  clear hb1 HC HZ HB HL y0
  have y10 := HZ1.out.c10
  go_wp2_with (refine wpList_load_part rfl 28 (.tmp 15) rfl w.heap.size 11 rfl (x.df.c p.q).toList _ HZ1.out.df Try.underlying28 rfl acl_size (x.df.v p.q) rfl ?_)
  refine (validDef_calls x.hd x.df p.q w1 HL1.out.df HS.out.df).mono ?_
  rintro e w2 ⟨rfl, hb2⟩
  have HB2 := Lib.hid (HB1.out.trans (hb2.mono HB1.out.size))
  have HZ2 := Lib.hid (HZ1.out.on hb2)
  have HL2 := Lib.hid (HL1.out.below hb2)
  clear hb2 HZ1 HB1 HL1 y10
  have y18 := HZ2.out.c18
  cases hd : defB x.hd x.df
  case false =>
    have HV : Hid (amayB x = false) := Lib.hid (by rw [HV1.out, hd]; rfl)
    clear hd
    go_wp2_with (fail)
    go_ret
    exact ⟨by rw [HV.out]; rfl, HB2.out⟩
  case true =>
  have HV : Hid (amayB x = xsB x.xs) := Lib.hid (by rw [HV1.out, hd, Bool.true_and])
  clear hd
  go_wp2_with (fail)
  refine (validXattrs_calls p.X x.xs p.n w2 HL2.out.xs).mono ?_
  rintro e w3 ⟨rfl, hb3⟩
  have HB3 := Lib.hid (HB2.out.trans (hb3.mono HB2.out.size))
  clear hb3
  cases hx : xsB x.xs
  case false =>
    have HV' : Hid (amayB x = false) := Lib.hid (by rw [HV.out, hx])
    clear hx
    go_wp2_with (fail)
    go_ret
    exact ⟨by rw [HV'.out]; rfl, HB3.out⟩
  case true =>
    have HV' : Hid (amayB x = true) := Lib.hid (by rw [HV.out, hx])
    clear hx
    go_wp2_with (fail)
    go_ret
    exact ⟨by rw [HV'.out]; rfl, HB3.out⟩
end Go.Proofs.Ytgdiiicaljidpaa
