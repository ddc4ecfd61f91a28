/- Lists of words that are turned all at once, over lists of numbers: laid, read, applied. No program stands here. -/
import Derived.Test.YtphjppnkackmmaaSumMath
set_option linter.unusedSimpArgs false
set_option linter.unusedVariables false
namespace Go.Proofs.Ytphjppnkackmmaa.SumMath
/-- An entry: the place, the word. -/
structure Re where
  pos : Int
  word : Nat
def re0 : Re := ⟨0, 0⟩
instance : Inhabited Re := ⟨re0⟩
/-- It may be laid. -/
def reB (e : Re) : Bool := decide (0 ≤ e.pos ∧ e.pos < 1048576)
def rmayE (l : List Re) : Int := if 64 < l.length then 5 else if l.all reB then 0 else 2
theorem rmay_0 {l : List Re} (h : rmayE l = 0) : l.length ≤ 64 ∧ ∀ i, i < l.length → 0 ≤ (l.getD i re0).pos ∧ (l.getD i re0).pos < 1048576 := by
  unfold rmayE at h
  split at h
  · cases h
  · split at h
    · rename_i h1 h2
      refine ⟨by omega, fun i hi => ?_⟩
      rw [List.all_eq_true] at h2
      have := h2 (l.getD i re0) (by rw [List.getD_eq_getElem?_getD, List.getElem?_eq_getElem hi]; exact List.getElem_mem hi)
      exact of_decide_eq_true this
    · cases h
/-- Its words. -/
def bodyL (l : List Re) : List Nat := (l.map fun e => [e.pos.toNat, e.word]).flatten
theorem body_nil : bodyL [] = [] := rfl
theorem body_cons (e : Re) (l : List Re) : bodyL (e :: l) = e.pos.toNat :: e.word :: bodyL l := rfl
theorem body_snoc (e : Re) (l : List Re) : bodyL (l ++ [e]) = bodyL l ++ [e.pos.toNat, e.word] := by
  unfold bodyL
  rw [List.map_append, List.flatten_append]
  rfl
theorem body_len (l : List Re) : (bodyL l).length = 2 * l.length := by
  induction l with
  | nil => rfl
  | cons e l ih => rw [body_cons, List.length_cons, List.length_cons, List.length_cons, ih]; omega
theorem body_at (l : List Re) : ∀ i, i < l.length → (bodyL l).getD (2 * i) 0 = (l.getD i re0).pos.toNat ∧ (bodyL l).getD (2 * i + 1) 0 = (l.getD i re0).word := by
  induction l with
  | nil => intro i hi; cases hi
  | cons e l ih =>
    intro i hi
    rw [body_cons]
    cases i with
    | zero => exact ⟨rfl, rfl⟩
    | succ i =>
      have := ih i (by simpa using hi)
      rw [show 2 * (i + 1) = 2 * i + 1 + 1 by omega]
      exact this
/-- Its commit word: the number, the mark, the sum. -/
def commitN (l : List Re) : Nat := l.length + 20992 + 4294967296 * wordsV (bodyL l)
theorem commit_mod {l : List Re} (h : l.length ≤ 64) : commitN l % 256 = l.length := by unfold commitN; omega
theorem commit_ne (l : List Re) : commitN l ≠ 0 := by unfold commitN; omega
theorem commit_lt {l : List Re} (h : l.length ≤ 64) (hw : ∀ x ∈ bodyL l, x < 18446744073709551616) : commitN l < 18446744073709551616 := by
  have := wordsV_lt hw
  unfold commitN; omega
/-- What stands in a slot. -/
def decL (s : List Nat) (n : Nat) : List Re := (List.range n).map fun i => ⟨((s.getD (8 + 2 * i) 0 : Nat) : Int), s.getD (9 + 2 * i) 0⟩
theorem dec_len (s : List Nat) (n : Nat) : (decL s n).length = n := by simp [decL]
theorem dec_succ (s : List Nat) (n : Nat) : decL s (n + 1) = decL s n ++ [⟨((s.getD (8 + 2 * n) 0 : Nat) : Int), s.getD (9 + 2 * n) 0⟩] := by
  unfold decL
  rw [List.range_succ, List.map_append]
  rfl
theorem dec_at (s : List Nat) (n i : Nat) (h : i < n) : (decL s n).getD i re0 = ⟨((s.getD (8 + 2 * i) 0 : Nat) : Int), s.getD (9 + 2 * i) 0⟩ := by
  unfold decL
  rw [List.getD_eq_getElem?_getD, List.getElem?_map, List.getElem?_range h]
  rfl
def rdN (s : List Nat) : Nat := s.getD 0 0 % 256
/-- It is a list's slot. -/
def slotB (s : List Nat) : Bool := decide (rdN s ≤ 64) && (decL s (rdN s)).all reB && decide (commitN (decL s (rdN s)) = s.getD 0 0)
/-- What Read tells: the error, whether there is one, the list. -/
def readE (s : List Nat) : Int := if s.length = 136 then (if s.getD 0 0 = 0 then 0 else if slotB s then 0 else 7) else 7
def readB (s : List Nat) : Bool := decide (s.length = 136) && decide (s.getD 0 0 ≠ 0) && slotB s
def readL (s : List Nat) : List Re := if readB s then decL s (rdN s) else []
theorem body_dec (s : List Nat) (n : Nat) : bodyL (decL s n) = (List.range (2 * n)).map fun i => s.getD (8 + i) 0 := by
  induction n with
  | zero => rfl
  | succ n ih =>
    rw [dec_succ, body_snoc, ih, show 2 * (n + 1) = 2 * n + 1 + 1 by omega, List.range_succ, List.range_succ, List.map_append, List.map_append, List.append_assoc]
    congr 1
    simp [show 8 + (2 * n + 1) = 9 + 2 * n by omega]
/-- A list that was laid is read, whatever else stands there. -/
theorem dec_laid {s : List Nat} {l : List Re} (h : rmayE l = 0) (h0 : s.getD 0 0 = commitN l) (hb : ∀ i, i < 2 * l.length → s.getD (8 + i) 0 = (bodyL l).getD i 0) : rdN s = l.length ∧ decL s l.length = l ∧ slotB s = true := by
  obtain ⟨h1, h2⟩ := rmay_0 h
  have hn : rdN s = l.length := by unfold rdN; rw [h0, commit_mod h1]
  have hd : decL s l.length = l := by
    refine List.ext_getElem (dec_len s _) fun i hi1 hi2 => ?_
    have e1 := dec_at s l.length i hi2
    obtain ⟨b1, b2⟩ := body_at l i hi2
    rw [hb (2 * i) (by omega) |>.trans b1, show 9 + 2 * i = 8 + (2 * i + 1) by omega, (hb (2 * i + 1) (by omega)).trans b2] at e1
    have hp := (h2 i hi2).1
    rw [List.getD_eq_getElem?_getD, List.getElem?_eq_getElem hi1] at e1
    have e2 : l.getD i re0 = l[i] := by rw [List.getD_eq_getElem?_getD, List.getElem?_eq_getElem hi2]; rfl
    rw [e2] at e1 hp
    refine (show (decL s l.length)[i] = _ from e1).trans ?_
    rw [Int.toNat_of_nonneg hp]
  refine ⟨hn, hd, ?_⟩
  unfold slotB
  rw [hn, hd, decide_eq_true h1, decide_eq_true h0.symm, Bool.true_and, Bool.and_true]
  unfold rmayE at h
  rw [if_neg (by omega)] at h
  split at h
  · assumption
  · cases h
theorem read_laid {s : List Nat} {l : List Re} (h : rmayE l = 0) (hs : s.length = 136) (h0 : s.getD 0 0 = commitN l) (hb : ∀ i, i < 2 * l.length → s.getD (8 + i) 0 = (bodyL l).getD i 0) : readE s = 0 ∧ readB s = true ∧ readL s = l := by
  obtain ⟨h1, h2, h3⟩ := dec_laid h h0 hb
  have hne : s.getD 0 0 ≠ 0 := by rw [h0]; exact commit_ne l
  have hB : readB s = true := by
    unfold readB
    rw [decide_eq_true hs, decide_eq_true hne, h3]
    rfl
  refine ⟨?_, hB, ?_⟩
  · unfold readE
    rw [if_pos hs, if_neg hne, if_pos h3]
  · unfold readL
    rw [if_pos hB, h1, h2]
/-- Another sum: it is no slot. -/
theorem read_turned {s y : List Nat} {l : List Re} (h : l.length ≤ 64) (hs : s.length = 136) (h0 : s.getD 0 0 = commitN l) (hy : y.length = 2 * l.length) (hb : ∀ i, i < 2 * l.length → s.getD (8 + i) 0 = y.getD i 0) (hw : wordsV y ≠ wordsV (bodyL l)) : readE s = 7 ∧ readB s = false ∧ readL s = [] := by
  have hn : rdN s = l.length := by unfold rdN; rw [h0, commit_mod h]
  have hbd : bodyL (decL s l.length) = y := by
    rw [body_dec]
    refine List.ext_getElem (by simp [hy]) fun i hi1 hi2 => ?_
    simp only [List.getElem_map, List.getElem_range]
    rw [hb i (by omega), List.getD_eq_getElem?_getD, List.getElem?_eq_getElem hi2]
    rfl
  have h3 : slotB s = false := by
    cases hsb : slotB s with
    | false => rfl
    | true =>
      exfalso
      unfold slotB at hsb
      simp only [Bool.and_eq_true, decide_eq_true_eq] at hsb
      have hc := hsb.2
      rw [hn, h0] at hc
      unfold commitN at hc
      rw [hbd, dec_len] at hc
      exact hw (by omega)
  have hne : s.getD 0 0 ≠ 0 := by rw [h0]; exact commit_ne l
  have hB : readB s = false := by unfold readB; rw [h3, Bool.and_false]
  refine ⟨?_, hB, ?_⟩
  · unfold readE
    rw [if_pos hs, if_neg hne, if_neg (by rw [h3]; decide)]
  · unfold readL
    rw [if_neg (by rw [hB]; decide)]
/-- Bits turned within 32 in a row: another sum. -/
theorem burst_sum {l y : List Nat} {k t : Nat} (hl : ∀ w ∈ l, w < 18446744073709551616) (hy : ∀ w ∈ y, w < 18446744073709551616) (hlen : y.length = l.length) (ht : t < 4294967296) (h0 : t ≠ 0) (hk : k ≤ 64 * l.length) (hn : num y = num l ^^^ 2 ^ k * t) : wordsV y ≠ wordsV l := by
  intro h
  unfold wordsV at h
  have h1 : wcrc M y = wcrc M l := by
    have := congrArg (· ^^^ M) h
    simpa [flip_two] using this
  rw [wcrc_num hy, wcrc_num hl, hlen, hn, ← Nat.xor_assoc, halves_xor] at h1
  have h2 : halves (64 * l.length) (2 ^ k * t) = 0 := by
    have := congrArg (halves (64 * l.length) (M ^^^ num l) ^^^ ·) h1
    simpa [← Nat.xor_assoc, Nat.xor_self] using this
  exact burst_ne h0 ht hk h2
/-- Applied: each place has the last word for it. -/
def inB (n : Nat) (e : Re) : Bool := decide (0 ≤ e.pos ∧ e.pos < (n : Int))
def appE (w : List Nat) (l : List Re) : Int := if l.all (inB w.length) then 0 else 2
def appL (w : List Nat) (l : List Re) : List Nat := l.foldl (fun x e => x.set e.pos.toNat e.word) w
def lastW (l : List Re) (at' : Nat) (d : Nat) : Nat := l.foldl (fun a e => if e.pos = (at' : Int) then e.word else a) d
theorem app_len (l : List Re) : ∀ w : List Nat, (appL w l).length = w.length := by
  induction l with
  | nil => intro w; rfl
  | cons e l ih => intro w; exact (ih _).trans (by simp)
theorem app_snoc (w : List Nat) (l : List Re) (e : Re) : appL w (l ++ [e]) = (appL w l).set e.pos.toNat e.word := by
  unfold appL
  rw [List.foldl_append]
  rfl
theorem last_snoc (l : List Re) (e : Re) (at' d : Nat) : lastW (l ++ [e]) at' d = if e.pos = (at' : Int) then e.word else lastW l at' d := by
  unfold lastW
  rw [List.foldl_append]
  rfl
theorem app_at (l : List Re) : ∀ (w : List Nat), l.all (inB w.length) = true → ∀ at', at' < w.length → (appL w l).getD at' 0 = lastW l at' (w.getD at' 0) := by
  induction l with
  | nil => intro w _ at' _; rfl
  | cons e l ih =>
    intro w h at' ha
    rw [List.all_cons, Bool.and_eq_true] at h
    have he := of_decide_eq_true h.1
    have hl : (w.set e.pos.toNat e.word).length = w.length := by simp
    have := ih (w.set e.pos.toNat e.word) (by rw [hl]; exact h.2) at' (by rw [hl]; exact ha)
    refine this.trans ?_
    show lastW l at' _ = lastW l at' _
    congr 1
    rw [List.getD_eq_getElem?_getD, List.getElem?_set, List.getD_eq_getElem?_getD]
    show _ = (if e.pos = (at' : Int) then e.word else w[at']?.getD 0)
    by_cases hp : e.pos = (at' : Int)
    · rw [if_pos hp, if_pos (show e.pos.toNat = at' by omega), if_pos (show e.pos.toNat < w.length by omega)]
      rfl
    · rw [if_neg hp, if_neg (show ¬ e.pos.toNat = at' by omega)]
theorem last_or (l : List Re) (at' : Nat) : (∀ d, lastW l at' d = d) ∨ ∃ c, ∀ d, lastW l at' d = c := by
  induction l with
  | nil => exact .inl fun d => rfl
  | cons e l ih =>
    rcases ih with h | ⟨c, h⟩
    · by_cases hp : e.pos = (at' : Int)
      · refine .inr ⟨e.word, fun d => ?_⟩
        show lastW l at' (if e.pos = (at' : Int) then e.word else d) = _
        rw [h, if_pos hp]
      · refine .inl fun d => ?_
        show lastW l at' (if e.pos = (at' : Int) then e.word else d) = _
        rw [h, if_neg hp]
    · exact .inr ⟨c, fun d => h _⟩
theorem app_twice {w : List Nat} {l : List Re} (h : l.all (inB w.length) = true) : appL (appL w l) l = appL w l := by
  refine List.ext_getElem (app_len l _) fun i h1 h2 => ?_
  have hi : i < w.length := by rw [app_len] at h2; exact h2
  have e1 := app_at l (appL w l) (by rw [app_len]; exact h) i h2
  have e2 := app_at l w h i hi
  have e3 : (appL (appL w l) l).getD i 0 = (appL w l).getD i 0 := by
    rw [e1]
    rcases last_or l i with hh | ⟨c, hh⟩
    · exact hh _
    · rw [hh, e2, hh]
  rw [List.getD_eq_getElem?_getD, List.getD_eq_getElem?_getD, List.getElem?_eq_getElem h1, List.getElem?_eq_getElem h2] at e3
  exact e3
/-- Bits to turn, as far as there is room. -/
def cutT (t room : Nat) : Nat := t % 2 ^ (min 32 room)
theorem cut_lt (t room : Nat) : cutT t room < 4294967296 := by
  unfold cutT
  refine Nat.lt_of_lt_of_le (Nat.mod_lt _ (Nat.two_pow_pos _)) ?_
  exact Nat.le_trans (Nat.pow_le_pow_right (by decide) (Nat.min_le_left 32 room)) (by decide)
theorem cut_bit (t room i : Nat) (hi : i < 32) : cutT t room / 2 ^ i % 2 = 1 ↔ t / 2 ^ i % 2 = 1 ∧ i < room := by
  have e : ∀ x : Nat, (x / 2 ^ i % 2 = 1) ↔ x.testBit i = true := fun x => by
    rw [Nat.testBit_eq_decide_div_mod_eq, decide_eq_true_eq]
  rw [e, e]
  unfold cutT
  rw [Nat.testBit_mod_two_pow, Bool.and_eq_true, decide_eq_true_eq]
  constructor
  · rintro ⟨h1, h2⟩
    exact ⟨h2, by omega⟩
  · rintro ⟨h1, h2⟩
    exact ⟨by omega, h1⟩
/-- Whether some have been turned. -/
theorem mod_more (t i : Nat) : t % 2 ^ (i + 1) ≠ 0 ↔ t % 2 ^ i ≠ 0 ∨ t / 2 ^ i % 2 = 1 := by
  rw [Nat.pow_succ, Nat.mod_mul]
  have h1 := Nat.two_pow_pos i
  have h2 : t / 2 ^ i % 2 < 2 := Nat.mod_lt _ (by decide)
  rcases Nat.eq_zero_or_pos (t / 2 ^ i % 2) with h | h
  · rw [h, Nat.mul_zero, Nat.add_zero]
    constructor
    · exact .inl
    · rintro (h3 | h3)
      · exact h3
      · omega
  · have h3 : t / 2 ^ i % 2 = 1 := by omega
    rw [h3, Nat.mul_one]
    constructor
    · intro _; exact .inr rfl
    · intro _; omega
theorem mod_full {t : Nat} (h : t < 4294967296) : t % 2 ^ 32 = t := Nat.mod_eq_of_lt (by simpa using h)
/-- A slot whose words from 8 on read as y. -/
structure Bd (s y : List Nat) (n c : Nat) : Prop where
  len : s.length = 136
  zero : s.getD 0 0 = c
  yl : y.length = n
  nle : n ≤ 128
  at' : ∀ i, i < n → s.getD (8 + i) 0 = y.getD i 0
theorem getD_setN (l : List Nat) (i j v : Nat) : (l.set i v).getD j 0 = if i = j ∧ i < l.length then v else l.getD j 0 := by
  rw [List.getD_eq_getElem?_getD, List.getElem?_set, List.getD_eq_getElem?_getD]
  by_cases h : i = j
  · subst h
    by_cases h2 : i < l.length
    · simp [h2]
    · rw [List.getElem?_eq_none (show l.length ≤ i by omega)]
      simp [h2]
  · simp [h]
/-- One word of it set, in both. -/
theorem Bd.set {s y : List Nat} {n c q v : Nat} (h : Bd s y n c) (hq : q < n) : Bd (s.set (8 + q) v) (y.set q v) n c := by
  have h1 := h.len
  have h2 := h.yl
  have h3 := h.nle
  refine ⟨by rw [List.length_set]; exact h1, ?_, by rw [List.length_set]; exact h2, h3, fun i hi => ?_⟩
  · rw [getD_setN, if_neg (by omega)]
    exact h.zero
  · rw [getD_setN, getD_setN, h.at' i hi]
    by_cases e : q = i
    · rw [if_pos ⟨by omega, by omega⟩, if_pos ⟨e, by omega⟩]
    · rw [if_neg (by omega), if_neg (by omega)]
/-- Words laid one behind the other: k of them lie. -/
structure Ly (s b : List Nat) (k c : Nat) : Prop where
  len : s.length = 136
  zero : s.getD 0 0 = c
  nle : b.length ≤ 128
  at' : ∀ i, i < k → s.getD (8 + i) 0 = b.getD i 0
theorem Ly.start {s b : List Nat} {c : Nat} (h : s.length = 136) (hb : b.length ≤ 128) : Ly (s.set 0 c) b 0 c := ⟨by rw [List.length_set]; exact h, by rw [getD_setN, if_pos ⟨rfl, by omega⟩], hb, fun i hi => by omega⟩
theorem Ly.step {s b : List Nat} {k c : Nat} (h : Ly s b k c) (hk : k < b.length) : Ly (s.set (8 + k) (b.getD k 0)) b (k + 1) c := by
  have h1 := h.len
  have h3 := h.nle
  refine ⟨by rw [List.length_set]; exact h1, ?_, h3, fun i hi => ?_⟩
  · rw [getD_setN, if_neg (by omega)]
    exact h.zero
  · rw [getD_setN]
    by_cases e : k = i
    · rw [if_pos ⟨by omega, by omega⟩, e]
    · rw [if_neg (by omega)]
      exact h.at' i (by omega)
theorem Ly.done {s b : List Nat} {c : Nat} (h : Ly s b b.length c) : Bd s b b.length c := ⟨h.len, h.zero, rfl, h.nle, h.at'⟩
end Go.Proofs.Ytphjppnkackmmaa.SumMath
