/- Attributes, and the words that they are: what is written is read back. No program stands here. -/
import Derived.Test.YtejhodjbgablaaaAc2
import Derived.Test.YtejhodjbgablaaaPackMath
set_option linter.unusedSimpArgs false
set_option linter.unusedVariables false
namespace Go.Proofs.Ytejhodjbgablaaa
open WordMath
/-- A key and its value. -/
structure Xt where
  key : ByteArray
  val : ByteArray
/-- Attributes. -/
structure At where
  bi : Nat
  ui : Nat
  gi : Nat
  ac : Ac
  hd : Bool
  df : Ac
  xs : List Xt
def flg (b : Bool) : Nat := if b then 1 else 0
/-- A named one as a number; of a row, or 0; two of a row. -/
def nmN (p : Nm) : Nat := p.id + 65536 * p.pm
def nmA (L : List Nm) (k : Nat) : Nat := match L[k]? with
  | some p => nmN p
  | none => 0
def prW (L : List Nm) (k : Nat) : Nat := nmA L k + 4294967296 * nmA L (k + 1)
/-- The head of a list. -/
def hdW (x : Ac) : Nat := x.ow + 16 * x.gr + 256 * x.ot + 4096 * x.ms + 65536 * flg x.hm + 1048576 * x.us.length + 16777216 * x.gs.length
/-- Word k of a text. -/
def pwd (s : ByteArray) (k : Nat) : Nat := (packL s.data.toList).getD k 0
/-- The words of the k-th key and value: its j-th. -/
def xaW (L : List Xt) (k j : Nat) : Nat := match L[k]? with
  | some x => if j = 0 then pwd x.key 0 else if j = 1 then x.key.size + 256 * x.val.size else if j = 2 then pwd x.val 0 else pwd x.val 1
  | none => 0
/-- All words ahead of the seal. -/
def atL (x : At) : List Nat :=
  [x.bi + 8 * flg x.hd + 16 * x.xs.length + 4294967296 * 1096045650, x.ui + 65536 * x.gi, hdW x.ac, hdW x.df,
   prW x.ac.us 0, prW x.ac.us 2, prW x.ac.gs 0, prW x.ac.gs 2, prW x.df.us 0, prW x.df.us 2, prW x.df.gs 0, prW x.df.gs 2,
   xaW x.xs 0 0, xaW x.xs 0 1, xaW x.xs 0 2, xaW x.xs 0 3, xaW x.xs 1 0, xaW x.xs 1 1, xaW x.xs 1 2, xaW x.xs 1 3,
   xaW x.xs 2 0, xaW x.xs 2 1, xaW x.xs 2 2, xaW x.xs 2 3, xaW x.xs 3 0, xaW x.xs 3 1, xaW x.xs 3 2, xaW x.xs 3 3, 0, 0, 0]
theorem atL_length (x : At) : (atL x).length = 31 := rfl
/-- What stands in words. -/
def txtB (l : List Nat) (n : Nat) : ByteArray := ⟨(textL l n).toArray⟩
def whoK (l : List Nat) (a k : Nat) : Nm := ⟨fld (l.getD (a + k / 2) 0) (32 * (k % 2)) 32 % 65536, fld (l.getD (a + k / 2) 0) (32 * (k % 2)) 32 / 65536 % 256⟩
def whoL (l : List Nat) (a n : Nat) : List Nm := (List.range (min n 4)).map (whoK l a)
def rdAc (l : List Nat) (h a : Nat) : Ac :=
  ⟨fld (l.getD h 0) 0 4, fld (l.getD h 0) 4 4, fld (l.getD h 0) 8 4, whoL l a (fld (l.getD h 0) 20 4), whoL l (a + 2) (fld (l.getD h 0) 24 4), decide (fld (l.getD h 0) 16 1 = 1), fld (l.getD h 0) 12 4⟩
def rdX (l : List Nat) (k : Nat) : Xt := ⟨txtB [l.getD (12 + 4 * k) 0] (fld (l.getD (13 + 4 * k) 0) 0 8), txtB [l.getD (14 + 4 * k) 0, l.getD (15 + 4 * k) 0] (fld (l.getD (13 + 4 * k) 0) 8 8)⟩
def rdAt (l : List Nat) : At :=
  ⟨fld (l.getD 0 0) 0 3, fld (l.getD 1 0) 0 16, fld (l.getD 1 0) 16 16, rdAc l 2 4, decide (fld (l.getD 0 0) 3 1 = 1), rdAc l 3 8, (List.range (min (fld (l.getD 0 0) 4 4) 4)).map (rdX l)⟩
/-- Lists whose numbers fit their fields. -/
structure AcFit (x : Ac) : Prop where
  ow : x.ow ≤ 7
  gr : x.gr ≤ 7
  ot : x.ot ≤ 7
  ms : x.ms ≤ 7
  ul : x.us.length ≤ 4
  gl : x.gs.length ≤ 4
  us : ∀ (k : Nat) p, x.us[k]? = some p → p.id < 65536 ∧ p.pm < 256
  gs : ∀ (k : Nat) p, x.gs[k]? = some p → p.id < 65536 ∧ p.pm < 256
structure AtFit (x : At) : Prop where
  bi : x.bi ≤ 7
  ui : x.ui < 65536
  gi : x.gi < 65536
  ac : AcFit x.ac
  df : AcFit x.df
  xl : x.xs.length ≤ 4
  xs : ∀ (k : Nat) p, x.xs[k]? = some p → p.key.size ≤ 8 ∧ p.val.size ≤ 16
theorem flg_lt (b : Bool) : flg b < 2 := by cases b <;> decide
theorem flg_eq (b : Bool) : decide (flg b = 1) = b := by cases b <;> rfl
theorem fld_div (w a n : Nat) : fld w a n = w / 2 ^ a % 2 ^ n := rfl
theorem hd_back {x : Ac} (h : AcFit x) : fld (hdW x) 0 4 = x.ow ∧ fld (hdW x) 4 4 = x.gr ∧ fld (hdW x) 8 4 = x.ot ∧ fld (hdW x) 12 4 = x.ms ∧ fld (hdW x) 16 1 = flg x.hm ∧ fld (hdW x) 20 4 = x.us.length ∧ fld (hdW x) 24 4 = x.gs.length := by
  obtain ⟨h1, h2, h3, h4, h5, h6, _, _⟩ := h
  have h7 := flg_lt x.hm
  unfold hdW
  simp only [fld_div, Nat.reducePow]
  generalize x.us.length = a at *
  generalize x.gs.length = b at *
  generalize flg x.hm = c at *
  refine ⟨?_, ?_, ?_, ?_, ?_, ?_, ?_⟩ <;> omega
theorem nmA_lt {L : List Nm} (h : ∀ (k : Nat) p, L[k]? = some p → p.id < 65536 ∧ p.pm < 256) (k : Nat) : nmA L k < 16777216 := by
  unfold nmA
  cases hk : L[k]? with
  | none => simp
  | some p =>
    have := h k p hk
    simp only [nmN]
    omega
/-- A row is read back. -/
theorem who_back {L : List Nm} (l : List Nat) (a : Nat) (hl : L.length ≤ 4) (h : ∀ (k : Nat) p, L[k]? = some p → p.id < 65536 ∧ p.pm < 256) (h0 : l.getD a 0 = prW L 0) (h1 : l.getD (a + 1) 0 = prW L 2) : whoL l a L.length = L := by
  have hn := nmA_lt h
  have one : ∀ k p, L[k]? = some p → whoK l a k = p := by
    intro k p hk
    have hk4 : k < 4 := by have := (List.getElem?_eq_some_iff.1 hk).1; omega
    obtain ⟨i1, i2⟩ := h k p hk
    have e : nmA L k = p.id + 65536 * p.pm := by unfold nmA; rw [hk]; rfl
    have key : fld (l.getD (a + k / 2) 0) (32 * (k % 2)) 32 = nmA L k := by
      have n0 := hn 0
      have n1 := hn 1
      have n2 := hn 2
      have n3 := hn 3
      obtain rfl | rfl | rfl | rfl : k = 0 ∨ k = 1 ∨ k = 2 ∨ k = 3 := by omega
      · show fld (l.getD a 0) 0 32 = _
        rw [h0]; simp only [prW, fld_div, Nat.reducePow, Nat.reduceAdd]; omega
      · show fld (l.getD a 0) 32 32 = _
        rw [h0]; simp only [prW, fld_div, Nat.reducePow, Nat.reduceAdd]; omega
      · show fld (l.getD (a + 1) 0) 0 32 = _
        rw [h1]; simp only [prW, fld_div, Nat.reducePow, Nat.reduceAdd]; omega
      · show fld (l.getD (a + 1) 0) 32 32 = _
        rw [h1]; simp only [prW, fld_div, Nat.reducePow, Nat.reduceAdd]; omega
    unfold whoK
    rw [key, e]
    obtain ⟨id, pm⟩ := p
    simp only at i1 i2
    have e1 : (id + 65536 * pm) % 65536 = id := by omega
    have e2 : (id + 65536 * pm) / 65536 % 256 = pm := by omega
    simp only [e1, e2]
  unfold whoL
  rw [Nat.min_eq_left hl]
  apply List.ext_getElem?
  intro k
  by_cases hk : k < L.length
  · rw [List.getElem?_map, List.getElem?_range hk, List.getElem?_eq_getElem hk]
    simp only [Option.map_some, Option.some.injEq]
    exact one k _ (List.getElem?_eq_getElem hk)
  · rw [List.getElem?_eq_none (by simpa using hk), List.getElem?_eq_none (by omega)]
theorem ac_back {x : Ac} (l : List Nat) (i a : Nat) (h : AcFit x) (hh : l.getD i 0 = hdW x) (h0 : l.getD a 0 = prW x.us 0) (h1 : l.getD (a + 1) 0 = prW x.us 2) (h2 : l.getD (a + 2) 0 = prW x.gs 0) (h3 : l.getD (a + 3) 0 = prW x.gs 2) : rdAc l i a = x := by
  obtain ⟨b1, b2, b3, b4, b5, b6, b7⟩ := hd_back h
  unfold rdAc
  rw [hh, b1, b2, b3, b4, b5, b6, b7, who_back l a h.ul h.us h0 h1, who_back l (a + 2) h.gl h.gs h2 h3, flg_eq]
theorem pwd_text (s : ByteArray) (l : List Nat) (h : ∀ k, k < s.size → l.getD (k / 8) 0 = pwd s (k / 8)) : txtB l s.size = s := by
  have hl : s.data.toList.length = s.size := by simp
  have e : textL l s.size = textL (packL s.data.toList) s.data.toList.length := by
    rw [hl]
    unfold textL
    apply List.map_congr_left
    intro k hk
    have hk2 : k < s.size := by simpa using hk
    rw [h k hk2]
    rfl
  unfold txtB
  rw [e, text_pack]
theorem x_back {L : List Xt} (l : List Nat) (k : Nat) (p : Xt) (hp : L[k]? = some p) (h8 : p.key.size ≤ 8) (h16 : p.val.size ≤ 16) (h0 : l.getD (12 + 4 * k) 0 = xaW L k 0) (h1 : l.getD (13 + 4 * k) 0 = xaW L k 1) (h2 : l.getD (14 + 4 * k) 0 = xaW L k 2) (h3 : l.getD (15 + 4 * k) 0 = xaW L k 3) : rdX l k = p := by
  have e0 : xaW L k 0 = pwd p.key 0 := by unfold xaW; rw [hp]; rfl
  have e1 : xaW L k 1 = p.key.size + 256 * p.val.size := by unfold xaW; rw [hp]; rfl
  have e2 : xaW L k 2 = pwd p.val 0 := by unfold xaW; rw [hp]; rfl
  have e3 : xaW L k 3 = pwd p.val 1 := by unfold xaW; rw [hp]; rfl
  have f1 : fld (p.key.size + 256 * p.val.size) 0 8 = p.key.size := by simp only [fld_div, Nat.reducePow]; omega
  have f2 : fld (p.key.size + 256 * p.val.size) 8 8 = p.val.size := by simp only [fld_div, Nat.reducePow]; omega
  unfold rdX
  rw [h0, h1, h2, h3, e0, e1, e2, e3, f1, f2]
  obtain ⟨key, val⟩ := p
  simp only at h8 h16 ⊢
  rw [pwd_text key _ (fun j hj => by
      have : j / 8 = 0 := by omega
      rw [this]; rfl), pwd_text val _ (fun j hj => by
      have : j / 8 = 0 ∨ j / 8 = 1 := by omega
      rcases this with e | e <;> rw [e] <;> rfl)]
/-- **What is written is read back.** -/
theorem at_back {x : At} (l : List Nat) (h : AtFit x) (hl : ∀ k, k < 31 → l.getD k 0 = (atL x).getD k 0) : rdAt l = x := by
  have g : ∀ k v, (atL x)[k]? = some v → l.getD k 0 = v := fun k v hv => by
    have hk : k < 31 := (List.getElem?_eq_some_iff.1 hv).1
    rw [hl k hk, List.getD_eq_getElem?_getD, hv]; rfl
  have w0 := g 0 _ rfl
  have w1 := g 1 _ rfl
  have hf := flg_lt x.hd
  have hxl := h.xl
  have c0 : fld (l.getD 0 0) 0 3 = x.bi := by rw [w0]; have := h.bi; simp only [fld_div, Nat.reducePow]; generalize x.xs.length = n at *; generalize flg x.hd = f at *; omega
  have c1 : fld (l.getD 0 0) 3 1 = flg x.hd := by rw [w0]; have := h.bi; simp only [fld_div, Nat.reducePow]; generalize x.xs.length = n at *; generalize flg x.hd = f at *; omega
  have c2 : fld (l.getD 0 0) 4 4 = x.xs.length := by rw [w0]; have := h.bi; simp only [fld_div, Nat.reducePow]; generalize x.xs.length = n at *; generalize flg x.hd = f at *; omega
  have c3 : fld (l.getD 1 0) 0 16 = x.ui := by rw [w1]; have := h.ui; have := h.gi; simp only [fld_div, Nat.reducePow]; omega
  have c4 : fld (l.getD 1 0) 16 16 = x.gi := by rw [w1]; have := h.ui; have := h.gi; simp only [fld_div, Nat.reducePow]; omega
  have c5 : rdAc l 2 4 = x.ac := ac_back l 2 4 h.ac (g 2 _ rfl) (g 4 _ rfl) (g 5 _ rfl) (g 6 _ rfl) (g 7 _ rfl)
  have c6 : rdAc l 3 8 = x.df := ac_back l 3 8 h.df (g 3 _ rfl) (g 8 _ rfl) (g 9 _ rfl) (g 10 _ rfl) (g 11 _ rfl)
  have c7 : (List.range (min x.xs.length 4)).map (rdX l) = x.xs := by
    rw [Nat.min_eq_left hxl]
    apply List.ext_getElem?
    intro k
    by_cases hk : k < x.xs.length
    · rw [List.getElem?_map, List.getElem?_range hk, List.getElem?_eq_getElem hk]
      simp only [Option.map_some, Option.some.injEq]
      have hp := List.getElem?_eq_getElem hk
      obtain ⟨s8, s16⟩ := h.xs k _ hp
      obtain rfl | rfl | rfl | rfl : k = 0 ∨ k = 1 ∨ k = 2 ∨ k = 3 := by omega
      · exact x_back l 0 _ hp s8 s16 (g 12 _ rfl) (g 13 _ rfl) (g 14 _ rfl) (g 15 _ rfl)
      · exact x_back l 1 _ hp s8 s16 (g 16 _ rfl) (g 17 _ rfl) (g 18 _ rfl) (g 19 _ rfl)
      · exact x_back l 2 _ hp s8 s16 (g 20 _ rfl) (g 21 _ rfl) (g 22 _ rfl) (g 23 _ rfl)
      · exact x_back l 3 _ hp s8 s16 (g 24 _ rfl) (g 25 _ rfl) (g 26 _ rfl) (g 27 _ rfl)
    · rw [List.getElem?_eq_none (by simpa using hk), List.getElem?_eq_none (by omega)]
  unfold rdAt
  rw [c0, c1, c2, c3, c4, c5, c6, c7, flg_eq]
/-- Words below 2 to the 64. -/
theorem pwd_lt (s : ByteArray) (k : Nat) : pwd s k < 18446744073709551616 := pack_wd s.data.toList _ (Nat.le_refl _) k
theorem xaW_lt {x : At} (h : AtFit x) (k j : Nat) : xaW x.xs k j < 18446744073709551616 := by
  unfold xaW
  cases hk : x.xs[k]? with
  | none => simp
  | some p =>
    have := h.xs k p hk
    have h1 := pwd_lt p.key 0
    have h2 := pwd_lt p.val 0
    have h3 := pwd_lt p.val 1
    simp only
    split
    · exact h1
    · split
      · omega
      · split
        · exact h2
        · exact h3
theorem prW_lt {L : List Nm} (h : ∀ (k : Nat) p, L[k]? = some p → p.id < 65536 ∧ p.pm < 256) (k : Nat) : prW L k < 18446744073709551616 := by
  have h1 := nmA_lt h k
  have h2 := nmA_lt h (k + 1)
  unfold prW
  omega
theorem hdW_lt {x : Ac} (h : AcFit x) : hdW x < 18446744073709551616 := by
  obtain ⟨h1, h2, h3, h4, h5, h6, _, _⟩ := h
  have h7 := flg_lt x.hm
  unfold hdW
  omega
theorem atL_wd {x : At} (h : AtFit x) : Wd (atL x) := by
  have hf := flg_lt x.hd
  have hx := h.xl
  have hb := h.bi
  have hu := h.ui
  have hg := h.gi
  have key : ∀ v ∈ atL x, v < 18446744073709551616 := by
    intro v hv
    simp only [atL, List.mem_cons, List.mem_nil_iff, or_false] at hv
    rcases hv with rfl | rfl | rfl | rfl | rfl | rfl | rfl | rfl | rfl | rfl | rfl | rfl | rfl | rfl | rfl | rfl | rfl | rfl | rfl | rfl | rfl | rfl | rfl | rfl | rfl | rfl | rfl | rfl | rfl | rfl | rfl
    · omega
    · omega
    · exact hdW_lt h.ac
    · exact hdW_lt h.df
    · exact prW_lt h.ac.us _
    · exact prW_lt h.ac.us _
    · exact prW_lt h.ac.gs _
    · exact prW_lt h.ac.gs _
    · exact prW_lt h.df.us _
    · exact prW_lt h.df.us _
    · exact prW_lt h.df.gs _
    · exact prW_lt h.df.gs _
    all_goals first | exact xaW_lt h _ _ | decide
  intro k
  rw [List.getD_eq_getElem?_getD]
  cases hk : (atL x)[k]? with
  | none => decide
  | some v => exact key v (List.mem_of_getElem? hk)
end Go.Proofs.Ytejhodjbgablaaa
