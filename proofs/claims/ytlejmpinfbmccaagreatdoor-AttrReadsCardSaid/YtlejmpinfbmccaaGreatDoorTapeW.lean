/- A tape of words: what is written on it, and where the next field begins. -/
import Derived.Test.YtlejmpinfbmccaaGreatDoorAtMath
import Derived.Test.YtlejmpinfbmccaaGreatDoorWordT
import Derived.Test.YtlejmpinfbmccaaGreatDoorAcT
import Derived.StillTactics
import Derived.RegionTactic
import Derived.BigRegion
import Derived.Test.YtlejmpinfbmccaaGreatDoorPackT
import Derived.Laws.CopyOwn
import Derived.Test.YtlejmpinfbmccaaGreatDoorAt1
set_option linter.unusedSimpArgs false
set_option linter.unusedVariables false
set_option linter.unusedSimpArgs false
set_option linter.unusedVariables false
namespace Go.Proofs.YtlejmpinfbmccaaGreatDoor
open Go.RowKit WordMath
/-- Whole words, the word under way, and noughts behind: 31 in all. -/
def tp (L : List Nat) (P : Nat) : List Nat := (L ++ P :: List.replicate 31 0).take 31
theorem tp_length (L : List Nat) (P : Nat) : (tp L P).length = 31 := by
  simp only [tp, List.length_take, List.length_append, List.length_cons, List.length_replicate]
  omega
theorem tp_get {L : List Nat} (h : L.length ≤ 30) (P : Nat) : (tp L P).getD L.length 0 = P := by
  simp only [tp, List.getD_eq_getElem?_getD]
  rw [List.getElem?_take_of_lt (by omega), List.getElem?_append_right (Nat.le_refl _)]
  simp
theorem tp_set {L : List Nat} (h : L.length ≤ 30) (P V : Nat) : (tp L P).set L.length V = tp L V := by
  simp only [tp]
  rw [← List.take_set, List.set_append_right _ _ (Nat.le_refl _)]
  simp
theorem tp_next {L : List Nat} (h : L.length ≤ 30) (P : Nat) : tp (L ++ [P]) 0 = tp L P := by
  simp only [tp, List.append_assoc, List.singleton_append]
  rw [List.take_append, List.take_append]
  congr 1
  obtain ⟨k, hk⟩ : ∃ k, 31 - L.length = k + 1 := ⟨30 - L.length, by omega⟩
  rw [hk, List.take_succ_cons, List.take_succ_cons]
  congr 1
  rw [show (0 : Nat) :: List.replicate 31 0 = List.replicate 32 0 from rfl, List.take_replicate, List.take_replicate]
  congr 1
  omega
theorem tp_full {L : List Nat} (h : L.length = 31) (P : Nat) : tp L P = L := by
  simp only [tp]
  rw [List.take_append_of_le_length (by omega), List.take_of_length_le (by omega)]
theorem put_add {P n k v : Nat} (hP : P < 2 ^ n) : put P n k v = P + v * 2 ^ n := by
  unfold put
  have h1 : P / 2 ^ (n + k) = 0 := Nat.div_eq_of_lt (Nat.lt_of_lt_of_le hP (Nat.pow_le_pow_right (by decide) (by omega)))
  rw [h1, Nat.mod_eq_of_lt hP, Nat.mul_zero, Nat.zero_add, Nat.mul_comm, Nat.add_comm]
theorem add_lt_pow {P n k v : Nat} (hP : P < 2 ^ n) (hv : v < 2 ^ k) : P + v * 2 ^ n < 2 ^ (n + k) := by
  have h1 : (v + 1) * 2 ^ n ≤ 2 ^ k * 2 ^ n := Nat.mul_le_mul_right _ hv
  rw [Nat.add_comm n k, Nat.pow_add]
  rw [Nat.add_mul, Nat.one_mul] at h1
  omega
/-- A block that is a tape: its words, the place of the next field. -/
def Tr (w : World) (b : Nat) (l : List Nat) (i : Nat) : Prop := w.heap[b]? = some (.cells ((wv l).toArray.push (.int .i64 (i : Nat))) 91 (0, 0))
abbrev OnlyB (b : Nat) (w w' : World) : Prop := Only (fun k => k = b) w w'
section
variable {w w' : World} {b i : Nat} {l : List Nat}
theorem Tr.lt (h : Tr w b l i) : b < w.heap.size := lt_of_cells h
theorem Tr.cell (h : Tr w b l i) (k : Nat) (hk : k < l.length) : w.cell? ⟨b, k, none⟩ = some (.int .u64 ((l.getD k 0 : Nat) : Int)) := by
  rw [cell_of_row w b k _ _ (0, 0) h]
  rw [Array.getElem?_push, if_neg (by simp [wv_length]; omega)]
  simpa using wv_get l k hk
theorem Tr.pos (h : Tr w b l i) (hl : l.length = 31) : w.cell? ⟨b, 31, none⟩ = some (.int .i64 (i : Nat)) := by
  rw [cell_of_row w b 31 _ _ (0, 0) h]
  rw [Array.getElem?_push, if_pos (by simp [wv_length, hl])]
theorem Tr.frozen (h : Tr w b l i) (k : Nat) : w.frozen? ⟨b, k, none⟩ = false := by
  unfold Tr at h
  simp [World.frozen?, h]
theorem Tr.setPos (h : Tr w b l i) (hl : l.length = 31) (j : Nat) : Tr (w.setCell ⟨b, 31, none⟩ (.int .i64 (j : Nat))) b l j := by
  have h2 := set_cell h 31 (.int .i64 (j : Nat))
  unfold Tr
  rw [h2]
  congr 2
  apply Array.ext'
  simp [wv_length, hl]
theorem Tr.set (h : Tr w b l i) (k v : Nat) (hk : k < l.length) : Tr (w.setCell ⟨b, k, none⟩ (.int .u64 (v : Nat))) b (l.set k v) i := by
  have h2 := set_cell h k (.int .u64 (v : Nat))
  unfold Tr
  rw [h2]
  congr 2
  apply Array.ext'
  simp [wv_set, List.set_append, wv_length, hk]
theorem Tr.keep {F : Nat → Prop} (h : Tr w b l i) (ho : Only F w w') (hF : ¬ F b) : Tr w' b l i := (ho.block b h.lt hF).trans h
theorem Tr.below (h : Tr w b l i) (ho : Below w.heap.size w w') : Tr w' b l i := (ho.block b h.lt).trans h
end
theorem next_calls (b : Nat) (l : List Nat) (i n : Nat) (w : World) (h : Tr w b l i) (hl : l.length = 31) (hi : i < 1984) (hn : n ≤ 64) :
    Calls Tryz.prog 88 #[.pointer (some ⟨b, 0, none⟩), .int .i64 (n : Nat)] w fun e w' => e = .returned (.tuple #[.pointer (some ⟨b, i / 64, none⟩), .int .i64 (i % 64 : Nat)]) ∧ Tr w' b l (i + n) ∧ OnlyB b w w' := by
  have hc := h.pos hl
  have hf := h.frozen 31
  have HT := Lib.hid h
  have hlt := h.lt
  clear h
  have h31 : i / 64 < 31 := by omega
  go_enter Tryz.func88, Tryz.ntmps88
  go_wp2_with (fail)
  go_quiet (fail)
  go_wp2_with (fail)
  go_ret2
  exact ⟨rfl, HT.out.setPos hl (i + n), (((Only.refl (fun k => k = b) w).drewN nq).setCell (p := ⟨b, 31, none⟩) (.inl rfl) _)⟩
/-- A tape that is written: so many whole words, n bits of the next one. -/
structure Tb (w : World) (b : Nat) (L : List Nat) (P n : Nat) : Prop where
  tr : Tr w b (tp L P) (64 * L.length + n)
  lt : P < 2 ^ n
theorem Tb.turn {w : World} {b P : Nat} {L : List Nat} (h : Tb w b L P 64) (hL : L.length ≤ 30) : Tb w b (L ++ [P]) 0 0 := by
  refine ⟨?_, by decide⟩
  rw [tp_next hL]
  have h1 := h.tr
  rw [List.length_append, show 64 * (L.length + [P].length) + 0 = 64 * L.length + 64 by simp; omega]
  exact h1
theorem Tb.keep {w w' : World} {b P n : Nat} {L : List Nat} {F : Nat → Prop} (h : Tb w b L P n) (ho : Only F w w') (hF : ¬ F b) : Tb w' b L P n := ⟨h.tr.keep ho hF, h.lt⟩
theorem Tb.below {w w' : World} {b P n : Nat} {L : List Nat} (h : Tb w b L P n) (ho : Below w.heap.size w w') : Tb w' b L P n := ⟨h.tr.below ho, h.lt⟩
theorem tput_calls (b : Nat) (L : List Nat) (P n k v : Nat) (ki vi : Int) (w : World) (hki : ki = (k : Nat)) (hvi : vi = (v : Nat)) (h : Tb w b L P n) (hL : L.length ≤ 30) (hk : 1 ≤ k) (hn : n + k ≤ 64) (hv : v < 2 ^ k) :
    Calls Tryz.prog 59 #[.pointer (some ⟨b, 0, none⟩), .int .i64 ki, .int .u64 vi] w fun e w' => e = .returned (.tuple #[]) ∧ Tb w' b L (P + v * 2 ^ n) (n + k) ∧ OnlyB b w w' := by
  subst hki hvi
  obtain ⟨hT, hP⟩ := h
  have hN := next_calls b (tp L P) (64 * L.length + n) k w hT (tp_length L P) (by omega) (by omega)
  rw [show (64 * L.length + n) / 64 = L.length by omega, show (64 * L.length + n) % 64 = n by omega] at hN
  have hP64 : P < 18446744073709551616 := Nat.lt_of_lt_of_le hP (pow_le64 (by omega))
  have hp : isPut (n : Nat) (k : Nat) (v : Nat) := ⟨⟨by omega, by omega, by omega⟩, by simpa using hv⟩
  have key := fun W => put_calls (P : Nat) (n : Nat) (k : Nat) (v : Nat) W (by omega) (by omega) (by omega) (by omega)
  rw [putV_yes hp, putE_yes hp] at key
  simp only [Int.toNat_natCast] at key
  rw [put_add hP] at key
  have hlt := hT.lt
  have HQ := Lib.hid (add_lt_pow hP hv)
  have HP := Lib.hid hP
  have HKey := Lib.hid key
  clear hT hP hv hp key
  go_enter Tryz.func59, Tryz.ntmps59
  go_wp2_with (fail)
  refine hN.mono ?_
  rintro e w1 ⟨rfl, hT1, hO1⟩
  have hc := hT1.cell L.length (by rw [tp_length]; omega)
  rw [tp_get hL] at hc
  have hf := hT1.frozen L.length
  have hb1 := hT1.lt
  have HT := Lib.hid hT1
  have HO := Lib.hid hO1
  clear hN hT1 hO1
  go_wp2_with (fail)
  refine (HKey.out _).mono ?_
  rintro e w2 ⟨rfl, m, rfl⟩
  go_wp2_with (fail)
  refine bodyPost_end (results_none rfl _ _ _) rfl ⟨rfl, ⟨?_, HQ.out⟩, ?_⟩
  · have h := Tr.set (w := w1.drewN m) HT.out L.length (P + v * 2 ^ n) (by rw [tp_length]; omega)
    rw [tp_set hL, Nat.add_assoc] at h
    exact h
  · exact (HO.out.drewN m).setCell (p := ⟨b, L.length, none⟩) (.inl rfl) _
theorem to_tr (b : Nat) (l : List Nat) (i m j : Nat) (mi : Int) (w : World) (hmi : mi = (m : Nat)) (h : Tr w b l i) (hl : l.length = 31) (hi : i < 1984) (hm : m ≤ 64) (hj : i + m = j + i % 64) :
    Calls Tryz.prog 61 #[.pointer (some ⟨b, 0, none⟩), .int .i64 mi] w fun e w' => e = .returned (.tuple #[]) ∧ Tr w' b l j ∧ OnlyB b w w' := by
  subst hmi
  have hc := h.pos hl
  have hf := h.frozen 31
  have HT := Lib.hid h
  have hlt := h.lt
  have HJ : Hid ((i : Int) + ((m : Int) - (i : Int) % 64) = (j : Int)) := Lib.hid (by omega)
  clear h hj
  go_enter Tryz.func61, Tryz.ntmps61
  go_region
  all_goals
    go_wp2_with (fail)
    refine bodyPost_end (results_none rfl _ _ _) rfl ⟨rfl, ?_⟩
    rw [HJ.out]
    exact ⟨HT.out.setPos hl j, ((Only.refl (fun k => k = b) w).setCell (p := ⟨b, 31, none⟩) (.inl rfl) _).drew⟩
theorem to_calls (b : Nat) (L : List Nat) (P n m : Nat) (mi : Int) (w : World) (hmi : mi = (m : Nat)) (h : Tb w b L P n) (hL : L.length ≤ 30) (hn : n < 64) (hnm : n ≤ m) (hm : m ≤ 64) :
    Calls Tryz.prog 61 #[.pointer (some ⟨b, 0, none⟩), .int .i64 mi] w fun e w' => e = .returned (.tuple #[]) ∧ Tb w' b L P m ∧ OnlyB b w w' := by
  refine (to_tr b (tp L P) (64 * L.length + n) m (64 * L.length + m) mi w hmi h.tr (tp_length L P) (by omega) hm (by omega)).mono ?_
  rintro e w' ⟨rfl, h1, h2⟩
  exact ⟨rfl, ⟨h1, Nat.lt_of_lt_of_le h.lt (Nat.pow_le_pow_right (by decide) hnm)⟩, h2⟩
theorem tget_calls (b : Nat) (l : List Nat) (g n k : Nat) (ki : Int) (w : World) (hki : ki = (k : Nat)) (h : Tr w b l (64 * g + n)) (hl : l.length = 31) (hw : Wd l) (hg : g ≤ 30) (hk : 1 ≤ k) (hn : n + k ≤ 64) :
    Calls Tryz.prog 97 #[.pointer (some ⟨b, 0, none⟩), .int .i64 ki] w fun e w' => e = .returned (.int .u64 (fld (l.getD g 0) n k : Nat)) ∧ Tr w' b l (64 * g + (n + k)) ∧ OnlyB b w w' := by
  subst hki
  have hN := next_calls b l (64 * g + n) k w h hl (by omega) (by omega)
  rw [show (64 * g + n) / 64 = g by omega, show (64 * g + n) % 64 = n by omega] at hN
  have hp : isFld (n : Nat) (k : Nat) := ⟨by omega, by omega, by omega⟩
  have hwg := hw g
  have HL := Lib.hid hl
  have HG := Lib.hid hg
  have hl31 : g < l.length := by omega
  clear hw
  obtain ⟨x, hx⟩ : ∃ x, l.getD g 0 = x := ⟨_, rfl⟩
  rw [hx] at hwg ⊢
  have HX := Lib.hid hx
  have key := fun W => get_calls (x : Nat) (n : Nat) (k : Nat) W (by omega) (by omega) (by omega)
  rw [getV_yes hp, getE_yes hp] at key
  simp only [Int.toNat_natCast] at key
  have HKey := Lib.hid key
  have hlt := h.lt
  clear h hp key hx hl
  go_enter Tryz.func97, Tryz.ntmps97
  go_wp2_with (fail)
  refine hN.mono ?_
  rintro e w1 ⟨rfl, hT1, hO1⟩
  have hc := hT1.cell g hl31
  rw [HX.out] at hc
  have hb1 := hT1.lt
  have HT := Lib.hid hT1
  have HO := Lib.hid hO1
  clear hN hT1 hO1
  go_wp2_with (fail)
  refine (HKey.out _).mono ?_
  rintro e w2 ⟨rfl, rfl⟩
  go_wp2_with (fail)
  go_ret
  exact ⟨rfl, by have h := HT.out; rw [Nat.add_assoc] at h; exact h, HO.out⟩
theorem putFlag_calls (b : Nat) (L : List Nat) (P n : Nat) (o : Bool) (w : World) (h : Tb w b L P n) (hL : L.length ≤ 30) (hn : n + 1 ≤ 64) :
    Calls Tryz.prog 60 #[.pointer (some ⟨b, 0, none⟩), .bool o] w fun e w' => e = .returned (.tuple #[]) ∧ Tb w' b L (P + flg o * 2 ^ n) (n + 1) ∧ OnlyB b w w' := by
  have H := Lib.hid h
  clear h
  cases o
  all_goals
    go_enter Tryz.func60, Tryz.ntmps60
    go_wp2_with (fail)
  · refine (tput_calls b L P n 1 0 1 0 w rfl rfl H.out hL (by decide) hn (by decide)).mono ?_
    rintro e w1 ⟨rfl, h1, h2⟩
    go_wp2_with (fail)
    exact bodyPost_end (results_none rfl _ _ _) rfl ⟨rfl, h1, h2⟩
  · refine (tput_calls b L P n 1 1 1 1 w rfl rfl H.out hL (by decide) hn (by decide)).mono ?_
    rintro e w1 ⟨rfl, h1, h2⟩
    go_wp2_with (fail)
    exact bodyPost_end (results_none rfl _ _ _) rfl ⟨rfl, h1, h2⟩
theorem getFlag_calls (b : Nat) (l : List Nat) (g n : Nat) (w : World) (h : Tr w b l (64 * g + n)) (hl : l.length = 31) (hw : Wd l) (hg : g ≤ 30) (hn : n + 1 ≤ 64) :
    Calls Tryz.prog 98 #[.pointer (some ⟨b, 0, none⟩)] w fun e w' => e = .returned (.bool (decide (fld (l.getD g 0) n 1 = 1))) ∧ Tr w' b l (64 * g + (n + 1)) ∧ OnlyB b w w' := by
  have hC := tget_calls b l g n 1 1 w rfl h hl hw hg (by decide) hn
  obtain ⟨x, hx⟩ : ∃ x, fld (l.getD g 0) n 1 = x := ⟨_, rfl⟩
  rw [hx] at hC ⊢
  have hd : ((x : Int) == 1) = decide (x = 1) := by
    by_cases h : x = 1
    · subst h; rfl
    · rw [decide_eq_false h, beq_eq_false_iff_ne]; omega
  clear h hw hx
  go_enter Tryz.func98, Tryz.ntmps98
  go_wp2_with (fail)
  refine hC.mono ?_
  rintro e w1 ⟨rfl, h1, h2⟩
  have H1 := Lib.hid h1
  have H2 := Lib.hid h2
  clear hC h1 h2
  go_wp2_with (fail)
  go_ret
  exact ⟨rfl, H1.out, H2.out⟩
end Go.Proofs.YtlejmpinfbmccaaGreatDoor
/- What is written on a tape: a named one, the head of a list, a text. -/
set_option linter.unusedSimpArgs false
set_option linter.unusedVariables false
namespace Go.Proofs.YtlejmpinfbmccaaGreatDoor
open Go.RowKit WordMath
theorem OnlyB.tr {b : Nat} {a c d : World} (h : OnlyB b a c) (k : OnlyB b c d) : OnlyB b a d := Only.trans h k (fun i hi => .inl hi)
theorem putNamed_calls (b : Nat) (L : List Nat) (P n : Nat) (p : Nm) (w : World) (h : Tb w b L P n) (hL : L.length ≤ 30) (hn : n + 32 ≤ 64) (hi : p.id < 65536) (hm : p.pm < 256) :
    Calls Tryz.prog 64 #[.pointer (some ⟨b, 0, none⟩), .agg #[.int .u16 (p.id : Nat), .int .u8 (p.pm : Nat)]] w fun e w' => e = .returned (.tuple #[]) ∧ Tb w' b L (P + nmN p * 2 ^ n) (n + 32) ∧ OnlyB b w w' := by
  obtain ⟨id, pm⟩ := p
  simp only at hi hm
  have hlt := h.tr.lt
  obtain ⟨V, hV⟩ : ∃ V, V = w.alloc (.cells #[.int .u16 (id : Nat), .int .u8 (pm : Nat)] 54) := ⟨_, rfl⟩
  have HA : Hid (OnlyB b w V) := Lib.hid (by rw [hV]; exact (Only.refl (fun k => k = b) w).alloc _)
  have hN : V.heap[w.heap.size]? = some (.cells #[.int .u16 (id : Nat), .int .u8 (pm : Nat)] 54 (0, 0)) := by rw [hV]; exact heap_alloc_new _ _
  have HT : Hid (Tb V b L P n) := Lib.hid (h.below (by rw [hV]; exact (Below.refl _ _).alloc (Nat.le_refl _) _))
  obtain ⟨q0, q1⟩ := two_cells hN
  have HN := Lib.hid hN
  have HE : Hid (P + id * 2 ^ n + pm * 2 ^ (n + 16) = P + nmN ⟨id, pm⟩ * 2 ^ n) := Lib.hid (by
    rw [Nat.pow_add, Nat.add_assoc]
    congr 1
    simp only [nmN, Nat.add_mul]
    congr 1
    rw [Nat.mul_comm (2 ^ n), ← Nat.mul_assoc, Nat.mul_comm pm])
  clear h hN
  go_enter Tryz.func64, Tryz.ntmps64
  go_upto_region 1 with (fail)
  rw [← hV]
  clear hV
  go_wp2_with (fail)
  refine (tput_calls b L P n 16 id 16 id V rfl rfl HT.out hL (by decide) (by omega) hi).mono ?_
  rintro e w1 ⟨rfl, h1, h2⟩
  obtain ⟨r0, r1⟩ := two_cells ((h2.block w.heap.size (lt_of_cells HN.out) (by omega)).trans HN.out)
  have H1 := Lib.hid h1
  have H2 := Lib.hid h2
  clear h1 h2 q0 q1
  go_wp2_with (fail)
  refine (tput_calls b L (P + id * 2 ^ n) (n + 16) 16 pm 16 pm w1 rfl rfl H1.out hL (by decide) (by omega) (by omega)).mono ?_
  rintro e w2 ⟨rfl, h3, h4⟩
  have H3 := Lib.hid h3
  clear h3
  go_wp2_with (fail)
  refine bodyPost_end (results_none rfl _ _ _) rfl ⟨rfl, ?_, (HA.out.tr H2.out).tr h4⟩
  have h := H3.out
  rw [HE.out, Nat.add_assoc] at h
  exact h
theorem put_words_step (L : List Nat) (f : Nat → Nat) (k : Nat) : L ++ (List.range k).map f ++ [f k] = L ++ (List.range (k + 1)).map f := by
  rw [List.range_succ, List.map_append, ← List.append_assoc]; rfl
theorem u64_size' : (Tryz.prog.info? 49).map (·.size) = some 1 := by kernel_rfl
theorem packL_len (s : ByteArray) : (packL s.data.toList).length = wn s.size := by unfold packL; rw [packTo_len]; simp
theorem splice_pack (s : ByteArray) (m : Nat) (h : s.size ≤ 8 * m) : splice (wv (List.replicate m 0)) 0 (wv (packL s.data.toList)) = wv ((List.range m).map (pwd s)) := by
  have hl := packL_len s
  have hw : wn s.size ≤ m := by unfold wn; omega
  unfold splice
  simp only [List.take_zero, List.nil_append, Nat.zero_add]
  rw [wv_length]
  have e : wv (List.replicate m 0) = wv (List.replicate (packL s.data.toList).length 0) ++ wv (List.replicate (m - (packL s.data.toList).length) 0) := by
    rw [← wv_append, List.replicate_append_replicate, hl]
    congr 2; omega
  rw [e, List.drop_append_of_le_length (by rw [wv_length]; simp), List.drop_of_length_le (by rw [wv_length]; simp), List.nil_append, ← wv_append]
  congr 1
  apply List.ext_getElem?
  intro k
  by_cases hk : k < m
  · rw [List.getElem?_map, List.getElem?_range hk]
    simp only [Option.map_some, pwd, List.getD_eq_getElem?_getD]
    by_cases h2 : k < (packL s.data.toList).length
    · rw [List.getElem?_append_left h2, List.getElem?_eq_getElem h2]; rfl
    · rw [List.getElem?_append_right (by omega), List.getElem?_eq_none (l := packL s.data.toList) (by omega), List.getElem?_replicate, if_pos (by omega)]; rfl
  · rw [List.getElem?_eq_none (by rw [List.length_append, List.length_replicate]; omega), List.getElem?_eq_none (by simp; omega)]
set_option maxRecDepth 100000 in
theorem putText_calls (b : Nat) (L : List Nat) (s : ByteArray) (m : Nat) (w : World) (h : Tb w b L 0 0) (hL : L.length + m ≤ 31) (hs : s.size ≤ 8 * m) :
    Calls Tryz.prog 90 #[.pointer (some ⟨b, 0, none⟩), .string s, .int .i64 (m : Nat)] w fun e w' => e = .returned (.tuple #[]) ∧ Tb w' b (L ++ (List.range m).map (pwd s)) 0 0 ∧ OnlyB b w w' := by
  have hmk := run_make_row' (P := Tryz.prog) 36 49 (.int .u64 0) 8 Tryz.underlying36 u64_info rfl .i64 .i64 m (by omega) (by omega)
  have hlt := h.tr.lt
  have HT := Lib.hid h
  have HS := Lib.hid (splice_pack s m hs)
  have hwn : wn s.size ≤ m := by unfold wn; omega
  have hpl := Lib.hid (packL_len s)
  have hs' : s.size ≤ 140737488355328 := by omega
  clear h
  obtain ⟨V, hV⟩ : ∃ V, V = w.alloc (.cells (madeCells #[.int .u64 0] m) 49) := ⟨_, rfl⟩
  have hB0 : Blk 49 V w.heap.size (List.replicate m 0) := by rw [hV]; exact Blk.new w 49 m
  have hAV : Below w.heap.size w V := by rw [hV]; exact (Below.refl _ _).alloc (Nat.le_refl _) _
  have HB0 := Lib.hid hB0
  have HAV := Lib.hid hAV
  clear hB0 hAV
  go_enter Tryz.func90, Tryz.ntmps90
  go_upto_region 1 with (fail)
  rw [← hV]
  clear hV hmk
  go_wp2_with (fail)
  refine (pack_calls s V hs').mono ?_
  rintro e w1 ⟨A, c, rfl, hr, hfr, hb1⟩
  have HB1 := Lib.hid (HB0.out.below hb1 HB0.out.lt)
  have HAV1 := Lib.hid (HAV.out.trans (hb1.mono HAV.out.size))
  have hcop : 0 < (wv (packL s.data.toList)).length → ∃ ad, A = some ad ∧ ∀ j v, (wv (packL s.data.toList))[j]? = some v → w1.cell? (ad.add j) = some v := by
    intro h0
    rw [wv_length] at h0
    obtain ⟨ad, e, _, hc⟩ := hr h0
    refine ⟨ad, e, fun j v hv => ?_⟩
    have hj : j < (packL s.data.toList).length := by have := (List.getElem?_eq_some_iff.1 hv).1; rwa [wv_length] at this
    rw [wv_get _ _ hj] at hv
    rw [hc j hj]; exact hv
  have HC := Lib.hid hcop
  have HT1 : Hid (Tb w1 b L 0 0) := Lib.hid (HT.out.below HAV1.out)
  have hcl : (wv (packL s.data.toList)).length = Nat.min (packL s.data.toList).length m := by rw [wv_length, hpl.out]; exact (Nat.min_eq_left hwn).symm
  have hfit : 0 + (wv (packL s.data.toList)).length ≤ (wv (List.replicate m 0)).length := by rw [wv_length, wv_length, List.length_replicate, hpl.out]; omega
  clear hcop hr hfr hb1
  go_wp2_with (refine wpList_copy_splice rfl (.tmp 11) (.tmp 13) 36 36 rfl 49 Tryz.underlying36 u64_size' (some ⟨w.heap.size, 0, none⟩) A m m (packL s.data.toList).length c rfl rfl w.heap.size 0 (wv (List.replicate m 0)) 49 HB1.out (wv (packL s.data.toList)) hcl (fun h0 => ⟨rfl, HC.out h0⟩) hfit (wv_one _) w.heap.size w HAV1.out (Nat.le_refl _) ?_; intro w2 hg2 hb2; have HB2 : Hid (Blk 49 w2 w.heap.size ((List.range m).map (pwd s))) := Lib.hid (by have h := hg2.out; rw [HS.out] at h; exact h); have HT2 : Hid (Tb w2 b L 0 0) := Lib.hid (HT.out.below hb2); have HO2 : Hid (OnlyB b w w2) := Lib.hid (Only.of_below _ hb2); clear hg2 hb2)
  go_loopw [17] (fun i wr => ∃ k : Nat, i = .int .i64 k ∧ k ≤ m ∧ Hid (Tb wr b (L ++ (List.range k).map (pwd s)) 0 0) ∧ Blk 49 wr w.heap.size ((List.range m).map (pwd s)) ∧ Hid (OnlyB b w wr)) (fun i _ => m - (intOf i).toNat)
  case atStart => exact ⟨0, rfl, by omega, Lib.hid (by simpa using HT2.out), HB2.out, HO2⟩
  case round =>
    obtain ⟨k, rfl, hk, hT, hB, hO⟩ := hrel
    by_cases hkm : k < m
    · have hc := hB.cell k (by simp; exact hkm)
      have hgd : ((List.range m).map (pwd s)).getD k 0 = pwd s k := by rw [List.getD_eq_getElem?_getD, List.getElem?_map, List.getElem?_range hkm]; rfl
      rw [hgd] at hc
      have hp := pwd_lt s k
      have HST := Lib.hid (put_words_step L (pwd s) k)
      have HBB := Lib.hid hB
      have hlen : (L ++ (List.range k).map (pwd s)).length ≤ 30 := by simp; omega
      have hne : w.heap.size ≠ b := by omega
      clear hgd hB
      generalize pwd s k = x at *
      go_wp2_with (fail)
      refine (tput_calls b (L ++ (List.range k).map (pwd s)) 0 0 64 x 64 x wr rfl rfl hT.out hlen (by decide) (by decide) (by simpa using hp)).mono ?_
      rintro e w3 ⟨rfl, h1, h2⟩
      have H1 : Hid (Tb w3 b (L ++ (List.range (k + 1)).map (pwd s)) 0 0) := Lib.hid (by
        have h := h1.turn hlen
        simp only [Nat.zero_add, Nat.pow_zero, Nat.mul_one] at h
        rw [HST.out] at h
        exact h)
      have H2 := Lib.hid h2
      clear h1 h2
      go_wp2_with (fail)
      go_roundw
      case rel => exact ⟨k + 1, by go_num, by omega, H1, (H2.out.block _ HBB.out.lt hne).trans HBB.out, Lib.hid (hO.out.tr H2.out)⟩
      case measure => simp [intOf]; omega
    · obtain rfl : k = m := by omega
      go_wp2_with (fail)
      exact bodyPost_end (results_none rfl _ _ _) rfl ⟨rfl, hT.out, hO.out⟩
end Go.Proofs.YtlejmpinfbmccaaGreatDoor
/- What is written on a tape: the head of a list, a key and its value, whole rows of them. -/
set_option linter.unusedSimpArgs false
set_option linter.unusedVariables false
namespace Go.Proofs.YtlejmpinfbmccaaGreatDoor
open Go.RowKit WordMath
theorem Ab.keep {w w' : World} {b : Nat} {x : Ac} {p : Lie} {F : Nat → Prop} (h : Ab w b x p) (ho : Only F w w') (hF : ¬ F b) : Ab w' b x p := (ho.block b h.lt hF).trans h
theorem hd_sum (x : Ac) : 0 + x.ow * 2 ^ 0 + x.gr * 2 ^ (0 + 4) + x.ot * 2 ^ (0 + 4 + 4) + x.ms * 2 ^ (0 + 4 + 4 + 4) + flg x.hm * 2 ^ (0 + 4 + 4 + 4 + 4) + x.us.length * 2 ^ 20 + x.gs.length * 2 ^ (20 + 4) = hdW x := by
  simp only [hdW, Nat.zero_add, Nat.pow_zero, Nat.mul_one, Nat.reduceAdd, Nat.reducePow]
  omega
set_option maxRecDepth 100000 in
set_option maxHeartbeats 1000000 in
theorem putHead_calls (b : Nat) (L : List Nat) (x : Ac) (p : Lie) (w : World) (h : Tb w b L 0 0) (hL : L.length ≤ 30) (hx : AcFit x) :
    Calls Tryz.prog 62 #[.pointer (some ⟨b, 0, none⟩), x.v p] w fun e w' => e = .returned (.tuple #[]) ∧ Tb w' b (L ++ [hdW x]) 0 0 ∧ OnlyB b w w' := by
  have HS := Lib.hid (hd_sum x)
  obtain ⟨i1, i2, i3, i4, i5, i6, _, _⟩ := hx
  obtain ⟨ow, gr, ot, us, gs, hm, ms⟩ := x
  obtain ⟨A, c, B, d⟩ := p
  simp only at i1 i2 i3 i4 i5 i6
  have hlt := h.tr.lt
  obtain ⟨V, hV⟩ : ∃ V, V = w.alloc (.cells #[.int .u8 (ow : Nat), .int .u8 (gr : Nat), .int .u8 (ot : Nat), .slice A us.length c, .slice B gs.length d, .bool hm, .int .u8 (ms : Nat)] 25) := ⟨_, rfl⟩
  have hz : Ab V w.heap.size ⟨ow, gr, ot, us, gs, hm, ms⟩ ⟨A, c, B, d⟩ := by rw [hV]; exact Ab.new w ⟨ow, gr, ot, us, gs, hm, ms⟩ ⟨A, c, B, d⟩
  have HO0 : Hid (OnlyB b w V) := Lib.hid (by rw [hV]; exact (Only.refl (fun k => k = b) w).alloc _)
  have HT0 : Hid (Tb V b L 0 0) := Lib.hid (h.below (by rw [hV]; exact (Below.refl _ _).alloc (Nat.le_refl _) _))
  have hne : w.heap.size ≠ b := by omega
  obtain ⟨y0, y1, y2, y3, y4, y5, y6⟩ := hz.cells
  have HZ0 := Lib.hid hz
  clear h hz
  go_enter Tryz.func62, Tryz.ntmps62
  go_upto_region 1 with (fail)
  rw [← hV]
  clear hV
  go_wp2_with (fail)
  refine (tput_calls b L _ _ 4 (ow) 4 (ow : Nat) V rfl rfl HT0.out hL (by decide) (by decide) (by show _ < 16; omega)).mono ?_
  rintro e w1 ⟨rfl, h1, h2⟩
  have hz := HZ0.out.keep h2 hne
  have HO1 : Hid (OnlyB b w w1) := Lib.hid (HO0.out.tr h2)
  have HT1 := Lib.hid h1
  clear h1 h2 y0 y1 y2 y3 y4 y5 y6 HT0 HZ0 HO0
  obtain ⟨y0, y1, y2, y3, y4, y5, y6⟩ := hz.cells
  have HZ1 := Lib.hid hz
  clear hz
  go_wp2_with (fail)
  refine (tput_calls b L _ _ 4 (gr) 4 (gr : Nat) w1 rfl rfl HT1.out hL (by decide) (by decide) (by show _ < 16; omega)).mono ?_
  rintro e w2 ⟨rfl, h1, h2⟩
  have hz := HZ1.out.keep h2 hne
  have HO2 : Hid (OnlyB b w w2) := Lib.hid (HO1.out.tr h2)
  have HT2 := Lib.hid h1
  clear h1 h2 y0 y1 y2 y3 y4 y5 y6 HT1 HZ1 HO1
  obtain ⟨y0, y1, y2, y3, y4, y5, y6⟩ := hz.cells
  have HZ2 := Lib.hid hz
  clear hz
  go_wp2_with (fail)
  refine (tput_calls b L _ _ 4 (ot) 4 (ot : Nat) w2 rfl rfl HT2.out hL (by decide) (by decide) (by show _ < 16; omega)).mono ?_
  rintro e w3 ⟨rfl, h1, h2⟩
  have hz := HZ2.out.keep h2 hne
  have HO3 : Hid (OnlyB b w w3) := Lib.hid (HO2.out.tr h2)
  have HT3 := Lib.hid h1
  clear h1 h2 y0 y1 y2 y3 y4 y5 y6 HT2 HZ2 HO2
  obtain ⟨y0, y1, y2, y3, y4, y5, y6⟩ := hz.cells
  have HZ3 := Lib.hid hz
  clear hz
  go_wp2_with (fail)
  refine (tput_calls b L _ _ 4 (ms) 4 (ms : Nat) w3 rfl rfl HT3.out hL (by decide) (by decide) (by show _ < 16; omega)).mono ?_
  rintro e w4 ⟨rfl, h1, h2⟩
  have hz := HZ3.out.keep h2 hne
  have HO4 : Hid (OnlyB b w w4) := Lib.hid (HO3.out.tr h2)
  have HT4 := Lib.hid h1
  clear h1 h2 y0 y1 y2 y3 y4 y5 y6 HT3 HZ3 HO3
  obtain ⟨y0, y1, y2, y3, y4, y5, y6⟩ := hz.cells
  have HZ4 := Lib.hid hz
  clear hz
  go_wp2_with (fail)
  refine (putFlag_calls b L _ _ hm w4 HT4.out hL (by decide)).mono ?_
  rintro e w5 ⟨rfl, h1, h2⟩
  have hz := HZ4.out.keep h2 hne
  have HO5 : Hid (OnlyB b w w5) := Lib.hid (HO4.out.tr h2)
  have HT5 := Lib.hid h1
  clear h1 h2 y0 y1 y2 y3 y4 y5 y6 HT4 HZ4 HO4
  obtain ⟨y0, y1, y2, y3, y4, y5, y6⟩ := hz.cells
  have HZ5 := Lib.hid hz
  clear hz
  go_wp2_with (fail)
  refine (to_calls b L _ _ 20 20 w5 rfl HT5.out hL (by decide) (by decide) (by decide)).mono ?_
  rintro e w6 ⟨rfl, h1, h2⟩
  have hz := HZ5.out.keep h2 hne
  have HO6 : Hid (OnlyB b w w6) := Lib.hid (HO5.out.tr h2)
  have HT6 := Lib.hid h1
  clear h1 h2 y0 y1 y2 y3 y4 y5 y6 HT5 HZ5 HO5
  obtain ⟨y0, y1, y2, y3, y4, y5, y6⟩ := hz.cells
  have HZ6 := Lib.hid hz
  clear hz
  go_wp2_with (fail)
  refine (tput_calls b L _ _ 4 (us.length) 4 (us.length : Nat) w6 rfl rfl HT6.out hL (by decide) (by decide) (by show _ < 16; omega)).mono ?_
  rintro e w7 ⟨rfl, h1, h2⟩
  have hz := HZ6.out.keep h2 hne
  have HO7 : Hid (OnlyB b w w7) := Lib.hid (HO6.out.tr h2)
  have HT7 := Lib.hid h1
  clear h1 h2 y0 y1 y2 y3 y4 y5 y6 HT6 HZ6 HO6
  obtain ⟨y0, y1, y2, y3, y4, y5, y6⟩ := hz.cells
  have HZ7 := Lib.hid hz
  clear hz
  go_wp2_with (fail)
  refine (tput_calls b L _ _ 4 (gs.length) 4 (gs.length : Nat) w7 rfl rfl HT7.out hL (by decide) (by decide) (by show _ < 16; omega)).mono ?_
  rintro e w8 ⟨rfl, h1, h2⟩
  have hz := HZ7.out.keep h2 hne
  have HO8 : Hid (OnlyB b w w8) := Lib.hid (HO7.out.tr h2)
  have HT8 := Lib.hid h1
  clear h1 h2 y0 y1 y2 y3 y4 y5 y6 HT7 HZ7 HO7
  obtain ⟨y0, y1, y2, y3, y4, y5, y6⟩ := hz.cells
  have HZ8 := Lib.hid hz
  clear hz
  go_wp2_with (fail)
  refine (to_calls b L _ _ 64 64 w8 rfl HT8.out hL (by decide) (by decide) (by decide)).mono ?_
  rintro e w9 ⟨rfl, h1, h2⟩
  have hz := HZ8.out.keep h2 hne
  have HO9 : Hid (OnlyB b w w9) := Lib.hid (HO8.out.tr h2)
  have HT9 := Lib.hid h1
  clear h1 h2 y0 y1 y2 y3 y4 y5 y6 HT8 HZ8 HO8
  obtain ⟨y0, y1, y2, y3, y4, y5, y6⟩ := hz.cells
  have HZ9 := Lib.hid hz
  clear hz
  go_wp2_with (fail)
  refine bodyPost_end (results_none rfl _ _ _) rfl ⟨rfl, ?_, HO9.out⟩
  have h := HT9.out.turn hL
  rw [HS.out] at h
  exact h
theorem x_sum (x : Xt) : 0 + x.key.size * 2 ^ 0 + x.val.size * 2 ^ (0 + 8) = x.key.size + 256 * x.val.size := by
  simp only [Nat.zero_add, Nat.pow_zero, Nat.mul_one, Nat.reducePow]
  omega
/-- The four words of a key and its value. -/
def xW (x : Xt) : List Nat := [pwd x.key 0, x.key.size + 256 * x.val.size, pwd x.val 0, pwd x.val 1]
set_option maxRecDepth 100000 in
set_option maxHeartbeats 1000000 in
theorem putXattr_calls (b : Nat) (L : List Nat) (x : Xt) (w : World) (h : Tb w b L 0 0) (hL : L.length + 4 ≤ 31) (h8 : x.key.size ≤ 8) (h16 : x.val.size ≤ 16) :
    Calls Tryz.prog 66 #[.pointer (some ⟨b, 0, none⟩), .agg #[.string x.key, .string x.val]] w fun e w' => e = .returned (.tuple #[]) ∧ Tb w' b (L ++ xW x) 0 0 ∧ OnlyB b w w' := by
  have HS := Lib.hid (x_sum x)
  obtain ⟨key, val⟩ := x
  simp only at h8 h16
  have hlt := h.tr.lt
  obtain ⟨V, hV⟩ : ∃ V, V = w.alloc (.cells #[.string key, .string val] 52) := ⟨_, rfl⟩
  have hz : V.heap[w.heap.size]? = some (.cells #[.string key, .string val] 52 (0, 0)) := by rw [hV]; exact heap_alloc_new _ _
  have HO0 : Hid (OnlyB b w V) := Lib.hid (by rw [hV]; exact (Only.refl (fun k => k = b) w).alloc _)
  have HT0 : Hid (Tb V b L 0 0) := Lib.hid (h.below (by rw [hV]; exact (Below.refl _ _).alloc (Nat.le_refl _) _))
  have hne : w.heap.size ≠ b := by omega
  obtain ⟨y0, y1⟩ := two_cells hz
  have HZ0 := Lib.hid hz
  have hL1 : (L ++ (List.range 1).map (pwd key)).length ≤ 30 := by simp; omega
  clear h hz
  go_enter Tryz.func66, Tryz.ntmps66
  go_upto_region 1 with (fail)
  rw [← hV]
  clear hV
  go_wp2_with (fail)
  refine (putText_calls b L key 1 V HT0.out (by omega) (by omega)).mono ?_
  rintro e w1 ⟨rfl, h1, h2⟩
  have hz := (h2.block _ (lt_of_cells HZ0.out) hne).trans HZ0.out
  have HO1 : Hid (OnlyB b w w1) := Lib.hid (HO0.out.tr h2)
  have HT1 := Lib.hid h1
  clear h1 h2 y0 y1 HT0 HZ0 HO0
  obtain ⟨y0, y1⟩ := two_cells hz
  have HZ1 := Lib.hid hz
  clear hz
  go_wp2_with (fail)
  refine (tput_calls b (L ++ (List.range 1).map (pwd key)) _ _ 8 key.size 8 (key.size : Nat) w1 rfl rfl HT1.out hL1 (by decide) (by decide) (by show _ < 256; omega)).mono ?_
  rintro e w2 ⟨rfl, h1, h2⟩
  have hz := (h2.block _ (lt_of_cells HZ1.out) hne).trans HZ1.out
  have HO2 : Hid (OnlyB b w w2) := Lib.hid (HO1.out.tr h2)
  have HT2 := Lib.hid h1
  clear h1 h2 y0 y1 HT1 HZ1 HO1
  obtain ⟨y0, y1⟩ := two_cells hz
  have HZ2 := Lib.hid hz
  clear hz
  go_wp2_with (fail)
  refine (tput_calls b (L ++ (List.range 1).map (pwd key)) _ _ 8 val.size 8 (val.size : Nat) w2 rfl rfl HT2.out hL1 (by decide) (by decide) (by show _ < 256; omega)).mono ?_
  rintro e w3 ⟨rfl, h1, h2⟩
  have hz := (h2.block _ (lt_of_cells HZ2.out) hne).trans HZ2.out
  have HO3 : Hid (OnlyB b w w3) := Lib.hid (HO2.out.tr h2)
  have HT3 := Lib.hid h1
  clear h1 h2 y0 y1 HT2 HZ2 HO2
  obtain ⟨y0, y1⟩ := two_cells hz
  have HZ3 := Lib.hid hz
  clear hz
  go_wp2_with (fail)
  refine (to_calls b (L ++ (List.range 1).map (pwd key)) _ _ 64 64 w3 rfl HT3.out hL1 (by decide) (by decide) (by decide)).mono ?_
  rintro e w4 ⟨rfl, h1, h2⟩
  have hz := (h2.block _ (lt_of_cells HZ3.out) hne).trans HZ3.out
  have HO4 : Hid (OnlyB b w w4) := Lib.hid (HO3.out.tr h2)
  have HT4 := Lib.hid h1
  clear h1 h2 y0 y1 HT3 HZ3 HO3
  obtain ⟨y0, y1⟩ := two_cells hz
  have HZ4 := Lib.hid hz
  clear hz
  go_wp2_with (fail)
  refine (putText_calls b (L ++ (List.range 1).map (pwd key) ++ [key.size + 256 * val.size]) val 2 w4 (by have h := HT4.out.turn hL1; rw [HS.out] at h; exact h) (by simp; omega) (by omega)).mono ?_
  rintro e w5 ⟨rfl, h1, h2⟩
  have hz := (h2.block _ (lt_of_cells HZ4.out) hne).trans HZ4.out
  have HO5 : Hid (OnlyB b w w5) := Lib.hid (HO4.out.tr h2)
  have HT5 := Lib.hid h1
  clear h1 h2 y0 y1 HT4 HZ4 HO4
  obtain ⟨y0, y1⟩ := two_cells hz
  have HZ5 := Lib.hid hz
  clear hz
  go_wp2_with (fail)
  refine bodyPost_end (results_none rfl _ _ _) rfl ⟨rfl, ?_, HO5.out⟩
  have h := HT5.out
  have e : L ++ (List.range 1).map (pwd key) ++ [key.size + 256 * val.size] ++ (List.range 2).map (pwd val) = L ++ xW ⟨key, val⟩ := by
    simp only [xW, List.append_assoc]
    rfl
  rw [e] at h
  exact h
/-! ### rows, and noughts behind them -/
section
variable {P : Program}
theorem run_copy_z (w : World) (dT sT ty elem : TypeId) (sz g m n c : Nat) (A : Option Addr) (cur xs : List Value) (t : TypeId) (hu : P.underlying dT = some (.slice elem)) (hs : (P.info? elem).map (·.size) = some sz)
    (hg : w.heap[g]? = some (.cells cur.toArray t (0, 0))) (hn : n ≤ m) (hx : xs.length = n * sz) (hc : Cel w A xs) (hfit : xs.length ≤ cur.length) (h1 : ∀ v ∈ xs, v.oneCell' = true) :
    (Builtin.copy_ #[dT, sT] ty #[.slice (some ⟨g, 0, none⟩) m m, .slice A n c]).run P w = .ok (goInt n) (w.setRow g (xs ++ cur.drop xs.length).toArray) := by
  have hst := run_storeCells_at P g 0 t xs 0 cur.toArray w hg (by simpa using hfit) h1
  simp only [Nat.add_zero, Nat.zero_add, List.take_zero, List.nil_append, List.toList_toArray] at hst
  have hmin : Nat.min n m = n := Nat.min_eq_left hn
  obtain ⟨i, hi, hsz⟩ := Option.map_eq_some_iff.1 hs
  rcases A with _ | ad
  · have h0 : xs = [] := by
      cases xs with
      | nil => rfl
      | cons x r => obtain ⟨ad, h, _⟩ := hc (by simp); cases h
    subst h0
    simp only [List.nil_append, List.length_nil, List.drop_zero] at hst ⊢
    simp [Builtin.copy_, run_underlying hu, Builtin.lenOf, Builtin.firstCells, sizeOf, typeInfo, hi, hmin, hst]
  · have hl := run_loadCells_list (P := P) w ad xs (fun j u hu => by
      obtain ⟨ad', e, _, h⟩ := hc (by have := (List.getElem?_eq_some_iff.1 hu).1; omega)
      injection e with e; subst e
      exact h j u hu)
    rw [hx] at hl
    simp [Builtin.copy_, run_underlying hu, Builtin.lenOf, Builtin.firstCells, sizeOf, typeInfo, hi, hsz, hmin, hl, hst]
theorem wpList_copy_z {w : World} {ops : Array Oper} {rest : List Oper} {o : Oper} {a : Act} {Q : Exit → Act → World → Prop} (hgd : o.guard = none) (d s : Operand) (dT sT : TypeId)
    (ho : o.op = .call { callee := .builtin .copy, args := #[d, s], argTypes := #[dT, sT] }) (elem : TypeId) (sz g m n c : Nat) (A : Option Addr) (cur xs : List Value) (t : TypeId) (hu : P.underlying dT = some (.slice elem)) (hsz : (P.info? elem).map (·.size) = some sz)
    (hd : a.eval d = .slice (some ⟨g, 0, none⟩) m m) (hs : a.eval s = .slice A n c)
    (hg : w.heap[g]? = some (.cells cur.toArray t (0, 0))) (hn : n ≤ m) (hx : xs.length = n * sz) (hc : Cel w A xs) (hfit : xs.length ≤ cur.length) (h1 : ∀ v ∈ xs, v.oneCell' = true)
    (h : wpList P ops Q rest (a.put o.dst (goInt n)) (w.setRow g (xs ++ cur.drop xs.length).toArray)) : wpList P ops Q (o :: rest) a w := by
  refine wpList_plain hgd fun K hK => ?_
  have hrun := run_copy_z (P := P) w dT sT o.type elem sz g m n c A cur xs t hu hsz hg hn hx hc hfit h1
  unfold Oper.wp
  simp [execOp, ho, resolve, invoke, builtin, hd, hs, hrun, Result.andThen]
  exact hK _ _ h
end
/-- Noughts behind a row. -/
def padN (L : List Nm) : List Nm := L ++ List.replicate (4 - L.length) ⟨0, 0⟩
def padX (L : List Xt) : List Xt := L ++ List.replicate (4 - L.length) ⟨⟨#[]⟩, ⟨#[]⟩⟩
theorem padN_get (L : List Nm) (k : Nat) (hk : k < 4) : ∃ p, (padN L)[k]? = some p ∧ nmN p = nmA L k ∧ (p = ⟨0, 0⟩ ∨ L[k]? = some p) := by
  unfold padN nmA
  by_cases h : k < L.length
  · rw [List.getElem?_append_left h, List.getElem?_eq_getElem h]
    exact ⟨_, rfl, rfl, .inr rfl⟩
  · rw [List.getElem?_append_right (by omega), List.getElem?_replicate, if_pos (by omega), List.getElem?_eq_none (by omega)]
    exact ⟨_, rfl, rfl, .inl rfl⟩
theorem padX_get (L : List Xt) (k : Nat) (hk : k < 4) : ∃ p, (padX L)[k]? = some p ∧ xW p = [xaW L k 0, xaW L k 1, xaW L k 2, xaW L k 3] ∧ (p = ⟨⟨#[]⟩, ⟨#[]⟩⟩ ∨ L[k]? = some p) := by
  unfold padX xaW
  by_cases h : k < L.length
  · rw [List.getElem?_append_left h, List.getElem?_eq_getElem h]
    exact ⟨_, rfl, rfl, .inr rfl⟩
  · rw [List.getElem?_append_right (by omega), List.getElem?_replicate, if_pos (by omega), List.getElem?_eq_none (by omega)]
    exact ⟨_, rfl, by decide, .inl rfl⟩
def zNs : List Value := [.int .u16 0, .int .u8 0, .int .u16 0, .int .u8 0, .int .u16 0, .int .u8 0, .int .u16 0, .int .u8 0]
def zXs : List Value := [.string ⟨#[]⟩, .string ⟨#[]⟩, .string ⟨#[]⟩, .string ⟨#[]⟩, .string ⟨#[]⟩, .string ⟨#[]⟩, .string ⟨#[]⟩, .string ⟨#[]⟩]
theorem nv_append (L M : List Nm) : nv (L ++ M) = nv L ++ nv M := by
  induction L with
  | nil => rfl
  | cons p r ih => simp only [List.cons_append, nv, ih]
theorem xv_append (L M : List Xt) : xv (L ++ M) = xv L ++ xv M := by
  induction L with
  | nil => rfl
  | cons p r ih => simp only [List.cons_append, xv, ih]
theorem padN_cells (L : List Nm) (h : L.length ≤ 4) : nv L ++ zNs.drop (nv L).length = nv (padN L) := by
  unfold padN
  rw [nv_append, nv_length]
  congr 1
  obtain e | e | e | e | e : L.length = 0 ∨ L.length = 1 ∨ L.length = 2 ∨ L.length = 3 ∨ L.length = 4 := by omega
  all_goals rw [e]; rfl
theorem padX_cells (L : List Xt) (h : L.length ≤ 4) : xv L ++ zXs.drop (xv L).length = xv (padX L) := by
  unfold padX
  rw [xv_append, xv_length]
  congr 1
  obtain e | e | e | e | e : L.length = 0 ∨ L.length = 1 ∨ L.length = 2 ∨ L.length = 3 ∨ L.length = 4 := by omega
  all_goals rw [e]; rfl
theorem mk4N (w : World) : (Instr.makeSlice 23 (.int .i64 4) (.int .i64 4)).run Tryz.prog w = .ok (.slice (some ⟨w.heap.size, 0, none⟩) 4 4) (w.alloc (.cells zNs.toArray 54)) := by kernel_rfl
theorem mk4X (w : World) : (Instr.makeSlice 26 (.int .i64 4) (.int .i64 4)).run Tryz.prog w = .ok (.slice (some ⟨w.heap.size, 0, none⟩) 4 4) (w.alloc (.cells zXs.toArray 52)) := by kernel_rfl
theorem named_size : (Tryz.prog.info? 54).map (·.size) = some 2 := by kernel_rfl
theorem xattr_size : (Tryz.prog.info? 52).map (·.size) = some 2 := by kernel_rfl
end Go.Proofs.YtlejmpinfbmccaaGreatDoor
/- What is written on a tape: whole rows, and noughts up to the room that there is. -/
set_option linter.unusedSimpArgs false
set_option linter.unusedVariables false
namespace Go.Proofs.YtlejmpinfbmccaaGreatDoor
open Go.RowKit WordMath
/-- How far a row of named ones has come. -/
def stN (L : List Nat) (us : List Nm) : Nat → List Nat × Nat × Nat
  | 0 => (L, 0, 0)
  | 1 => (L, nmA us 0, 32)
  | 2 => (L ++ [prW us 0], 0, 0)
  | 3 => (L ++ [prW us 0], nmA us 2, 32)
  | _ => (L ++ [prW us 0, prW us 2], 0, 0)
def TbN (w : World) (b : Nat) (L : List Nat) (us : List Nm) (k : Nat) : Prop := Tb w b (stN L us k).1 (stN L us k).2.1 (stN L us k).2.2
theorem stN_fits {L : List Nat} (us : List Nm) {k : Nat} (hk : k < 4) (hL : L.length + 2 ≤ 31) : (stN L us k).1.length ≤ 30 ∧ (stN L us k).2.2 + 32 ≤ 64 := by
  obtain rfl | rfl | rfl | rfl : k = 0 ∨ k = 1 ∨ k = 2 ∨ k = 3 := by omega
  all_goals
    simp only [stN, List.length_append, List.length_singleton]
    omega
theorem pr_sum (us : List Nm) (k : Nat) : nmA us k + nmA us (k + 1) * 2 ^ 32 = prW us k := by
  simp only [prW, Nat.reducePow]
  rw [Nat.mul_comm]
theorem TbN.step {w : World} {b k : Nat} {L : List Nat} {us : List Nm} (hk : k < 4) (hL : L.length + 2 ≤ 31) (h : Tb w b (stN L us k).1 ((stN L us k).2.1 + nmA us k * 2 ^ (stN L us k).2.2) ((stN L us k).2.2 + 32)) : TbN w b L us (k + 1) := by
  obtain rfl | rfl | rfl | rfl : k = 0 ∨ k = 1 ∨ k = 2 ∨ k = 3 := by omega
  · simp only [stN, Nat.zero_add, Nat.pow_zero, Nat.mul_one] at h
    exact h
  · simp only [stN] at h
    rw [pr_sum us 0] at h
    exact h.turn (by omega)
  · simp only [stN, Nat.zero_add, Nat.pow_zero, Nat.mul_one] at h
    exact h
  · simp only [stN] at h
    rw [pr_sum us 2] at h
    have h2 := h.turn (by simp; omega)
    rw [List.append_assoc] at h2
    exact h2
def flX (xs : List Xt) (k : Nat) : List Nat := ((List.range k).map fun j => [xaW xs j 0, xaW xs j 1, xaW xs j 2, xaW xs j 3]).flatten
theorem flX_succ (xs : List Xt) (k : Nat) : flX xs (k + 1) = flX xs k ++ [xaW xs k 0, xaW xs k 1, xaW xs k 2, xaW xs k 3] := by simp [flX, List.range_succ]
theorem flX_length (xs : List Xt) (k : Nat) : (flX xs k).length = 4 * k := by
  induction k with
  | zero => rfl
  | succ k ih => rw [flX_succ, List.length_append, ih]; simp; omega

set_option maxRecDepth 100000 in
set_option maxHeartbeats 1000000 in
theorem putAllN_calls (b : Nat) (L : List Nat) (us : List Nm) (A : Option Addr) (c : Nat) (w : World) (h : Tb w b L 0 0) (hL : L.length + 2 ≤ 31) (hu : us.length ≤ 4) (hb : ∀ (k : Nat) p, us[k]? = some p → p.id < 65536 ∧ p.pm < 256) (hc : Cel w A (nv us)) :
    Calls Tryz.prog 63 #[.slice A us.length c, .int .i64 4, .func (.func 64) #[.pointer (some ⟨b, 0, none⟩)] #[]] w fun e w' => e = .returned (.tuple #[]) ∧ Tb w' b (L ++ [prW us 0, prW us 2]) 0 0 ∧ OnlyB b w w' := by
  have hmk := mk4N
  have hlt := h.tr.lt
  obtain ⟨V, hV⟩ : ∃ V, V = w.alloc (.cells zNs.toArray 54) := ⟨_, rfl⟩
  have hAV : Below w.heap.size w V := by rw [hV]; exact (Below.refl _ _).alloc (Nat.le_refl _) _
  have hB0 : V.heap[w.heap.size]? = some (.cells zNs.toArray 54 (0, 0)) := by rw [hV]; exact heap_alloc_new _ _
  have HB0 := Lib.hid hB0
  have HC := Lib.hid (hc.below hAV)
  have HE := Lib.hid (padN_cells us hu)
  obtain ⟨W, hW⟩ : ∃ W, W = V.setRow w.heap.size (nv us ++ zNs.drop (nv us).length).toArray := ⟨_, rfl⟩
  have hB1 : W.heap[w.heap.size]? = some (.cells (nv (padN us)).toArray 54 (0, 0)) := by
    rw [hW, ← HE.out]
    exact setRow_heap V w.heap.size _ _ _ _ hB0
  have hb1 : Below w.heap.size w W := by rw [hW]; exact below_setRow hAV (Nat.le_refl _) _
  have HT1 := Lib.hid (h.below hb1)
  have HO1 : Hid (OnlyB b w W) := Lib.hid (Only.of_below _ hb1)
  have HB1 := Lib.hid hB1
  have HW := Lib.hid hW
  have hfit : (nv us).length ≤ zNs.length := by rw [nv_length]; show _ ≤ 8; omega
  have HBnd := Lib.hid hb
  clear h hc hB0 hB1 hb1 hAV hb hW
  go_enter Tryz.func63, Tryz.ntmps63
  go_upto_region 1 with (fail)
  rw [← hV]
  clear hV hmk
  go_upto_region 2 with (refine wpList_copy_z rfl (.tmp 11) (.tmp 12) 23 23 rfl 54 2 w.heap.size 4 us.length c A zNs (nv us) 54 Tryz.underlying23 named_size rfl rfl HB0.out hu (nv_length us) HC.out hfit (nv_one us) ?_; rw [← HW.out])
  clear HB0 HC HE HW hfit
  go_wp2_with (fail)
  go_loopw [16] (fun i wr => ∃ k : Nat, i = .int .i64 k ∧ k ≤ 4 ∧ Hid (TbN wr b L us k) ∧ wr.heap[w.heap.size]? = some (.cells (nv (padN us)).toArray 54 (0, 0)) ∧ Hid (OnlyB b w wr)) (fun i _ => 4 - (intOf i).toNat)
  case atStart => exact ⟨0, rfl, by omega, HT1, HB1.out, HO1⟩
  case round =>
    obtain ⟨k, rfl, hk, hT, hB, hO⟩ := hrel
    by_cases hkm : k < 4
    · obtain ⟨p, hp, hpn, hpo⟩ := padN_get us k hkm
      have hpb : p.id < 65536 ∧ p.pm < 256 := by
        rcases hpo with rfl | h
        · decide
        · exact HBnd.out k p h
      obtain ⟨hL1, hL2⟩ := stN_fits (L := L) us hkm hL
      have HPN := Lib.hid hpn
      clear hpo hpn
      have hc0 : wr.cell? ⟨w.heap.size, k * 2, none⟩ = some (.int .u16 (p.id : Nat)) := by
        rw [cell_of_row wr w.heap.size (k * 2) _ _ (0, 0) hB]
        simpa using (nv_get hp).1
      have hc1 : wr.cell? ⟨w.heap.size, k * 2 + 1, none⟩ = some (.int .u8 (p.pm : Nat)) := by
        rw [cell_of_row wr w.heap.size (k * 2 + 1) _ _ (0, 0) hB]
        simpa using (nv_get hp).2
      have HBB := Lib.hid hB
      have hne : w.heap.size ≠ b := by omega
      clear hB hp
      go_wp2_with (fail)
      obtain ⟨V2, hV2⟩ : ∃ V2, V2 = wr.alloc (.cells #[.int .u16 (p.id : Nat), .int .u8 (p.pm : Nat)] 54) := ⟨_, rfl⟩
      rw [← hV2]
      have hbe : Below wr.heap.size wr V2 := by rw [hV2]; exact (Below.refl _ _).alloc (Nat.le_refl _) _
      have HT2 := Lib.hid (hT.out.below hbe)
      have HO2 : Hid (OnlyB b w V2) := Lib.hid (hO.out.tr (Only.of_below _ hbe))
      have HB2 := Lib.hid ((hbe.block _ (lt_of_cells HBB.out)).trans HBB.out)
      clear hV2 hbe hc0 hc1
      refine (putNamed_calls b _ _ _ p V2 HT2.out hL1 hL2 hpb.1 hpb.2).mono ?_
      rintro e w3 ⟨rfl, h1, h2⟩
      rw [HPN.out] at h1
      have H1 : Hid (TbN w3 b L us (k + 1)) := Lib.hid (TbN.step hkm hL h1)
      have HB3 := Lib.hid ((h2.block _ (lt_of_cells HB2.out) hne).trans HB2.out)
      have HO3 : Hid (OnlyB b w w3) := Lib.hid (HO2.out.tr h2)
      clear h1 h2
      go_wp2_with (fail)
      go_roundw
      case rel => exact ⟨k + 1, by go_num, by omega, H1, HB3.out, HO3⟩
      case measure => simp [intOf]; omega
    · obtain rfl : k = 4 := by omega
      go_wp2_with (fail)
      exact bodyPost_end (results_none rfl _ _ _) rfl ⟨rfl, hT.out, hO.out⟩

set_option maxRecDepth 100000 in
set_option maxHeartbeats 1000000 in
theorem putAllX_calls (b : Nat) (L : List Nat) (us : List Xt) (A : Option Addr) (c : Nat) (w : World) (h : Tb w b L 0 0) (hL : L.length + 16 ≤ 31) (hu : us.length ≤ 4) (hb : ∀ (k : Nat) p, us[k]? = some p → p.key.size ≤ 8 ∧ p.val.size ≤ 16) (hc : Cel w A (xv us)) :
    Calls Tryz.prog 65 #[.slice A us.length c, .int .i64 4, .func (.func 66) #[.pointer (some ⟨b, 0, none⟩)] #[]] w fun e w' => e = .returned (.tuple #[]) ∧ Tb w' b (L ++ flX us 4) 0 0 ∧ OnlyB b w w' := by
  have hmk := mk4X
  have hlt := h.tr.lt
  obtain ⟨V, hV⟩ : ∃ V, V = w.alloc (.cells zXs.toArray 52) := ⟨_, rfl⟩
  have hAV : Below w.heap.size w V := by rw [hV]; exact (Below.refl _ _).alloc (Nat.le_refl _) _
  have hB0 : V.heap[w.heap.size]? = some (.cells zXs.toArray 52 (0, 0)) := by rw [hV]; exact heap_alloc_new _ _
  have HB0 := Lib.hid hB0
  have HC := Lib.hid (hc.below hAV)
  have HE := Lib.hid (padX_cells us hu)
  obtain ⟨W, hW⟩ : ∃ W, W = V.setRow w.heap.size (xv us ++ zXs.drop (xv us).length).toArray := ⟨_, rfl⟩
  have hB1 : W.heap[w.heap.size]? = some (.cells (xv (padX us)).toArray 52 (0, 0)) := by
    rw [hW, ← HE.out]
    exact setRow_heap V w.heap.size _ _ _ _ hB0
  have hb1 : Below w.heap.size w W := by rw [hW]; exact below_setRow hAV (Nat.le_refl _) _
  have HT1 := Lib.hid (h.below hb1)
  have HO1 : Hid (OnlyB b w W) := Lib.hid (Only.of_below _ hb1)
  have HB1 := Lib.hid hB1
  have HW := Lib.hid hW
  have hfit : (xv us).length ≤ zXs.length := by rw [xv_length]; show _ ≤ 8; omega
  have HBnd := Lib.hid hb
  clear h hc hB0 hB1 hb1 hAV hb hW
  go_enter Tryz.func65, Tryz.ntmps65
  go_upto_region 1 with (fail)
  rw [← hV]
  clear hV hmk
  go_upto_region 2 with (refine wpList_copy_z rfl (.tmp 11) (.tmp 12) 26 26 rfl 52 2 w.heap.size 4 us.length c A zXs (xv us) 52 Tryz.underlying26 xattr_size rfl rfl HB0.out hu (xv_length us) HC.out hfit (xv_one us) ?_; rw [← HW.out])
  clear HB0 HC HE HW hfit
  go_wp2_with (fail)
  go_loopw [16] (fun i wr => ∃ k : Nat, i = .int .i64 k ∧ k ≤ 4 ∧ Hid (Tb wr b (L ++ flX us k) 0 0) ∧ wr.heap[w.heap.size]? = some (.cells (xv (padX us)).toArray 52 (0, 0)) ∧ Hid (OnlyB b w wr)) (fun i _ => 4 - (intOf i).toNat)
  case atStart => exact ⟨0, rfl, by omega, Lib.hid (by simpa [flX] using HT1.out), HB1.out, HO1⟩
  case round =>
    obtain ⟨k, rfl, hk, hT, hB, hO⟩ := hrel
    by_cases hkm : k < 4
    · obtain ⟨p, hp, hpn, hpo⟩ := padX_get us k hkm
      have hpb : p.key.size ≤ 8 ∧ p.val.size ≤ 16 := by
        rcases hpo with rfl | h
        · decide
        · exact HBnd.out k p h
      have hL1 : (L ++ flX us k).length + 4 ≤ 31 := by rw [List.length_append, flX_length]; omega
      have HPN := Lib.hid hpn
      clear hpo hpn
      have hc0 : wr.cell? ⟨w.heap.size, k * 2, none⟩ = some (.string p.key) := by
        rw [cell_of_row wr w.heap.size (k * 2) _ _ (0, 0) hB]
        simpa using (xv_get hp).1
      have hc1 : wr.cell? ⟨w.heap.size, k * 2 + 1, none⟩ = some (.string p.val) := by
        rw [cell_of_row wr w.heap.size (k * 2 + 1) _ _ (0, 0) hB]
        simpa using (xv_get hp).2
      have HBB := Lib.hid hB
      have hne : w.heap.size ≠ b := by omega
      clear hB hp
      go_wp2_with (fail)
      obtain ⟨V2, hV2⟩ : ∃ V2, V2 = wr.alloc (.cells #[.string p.key, .string p.val] 52) := ⟨_, rfl⟩
      rw [← hV2]
      have hbe : Below wr.heap.size wr V2 := by rw [hV2]; exact (Below.refl _ _).alloc (Nat.le_refl _) _
      have HT2 := Lib.hid (hT.out.below hbe)
      have HO2 : Hid (OnlyB b w V2) := Lib.hid (hO.out.tr (Only.of_below _ hbe))
      have HB2 := Lib.hid ((hbe.block _ (lt_of_cells HBB.out)).trans HBB.out)
      clear hV2 hbe hc0 hc1
      refine (putXattr_calls b _ p V2 HT2.out hL1 hpb.1 hpb.2).mono ?_
      rintro e w3 ⟨rfl, h1, h2⟩
      rw [HPN.out, List.append_assoc, ← flX_succ] at h1
      have H1 : Hid (Tb w3 b (L ++ flX us (k + 1)) 0 0) := Lib.hid h1
      have HB3 := Lib.hid ((h2.block _ (lt_of_cells HB2.out) hne).trans HB2.out)
      have HO3 : Hid (OnlyB b w w3) := Lib.hid (HO2.out.tr h2)
      clear h1 h2
      go_wp2_with (fail)
      go_roundw
      case rel => exact ⟨k + 1, by go_num, by omega, H1, HB3.out, HO3⟩
      case measure => simp [intOf]; omega
    · obtain rfl : k = 4 := by omega
      go_wp2_with (fail)
      exact bodyPost_end (results_none rfl _ _ _) rfl ⟨rfl, hT.out, hO.out⟩
end Go.Proofs.YtlejmpinfbmccaaGreatDoor
