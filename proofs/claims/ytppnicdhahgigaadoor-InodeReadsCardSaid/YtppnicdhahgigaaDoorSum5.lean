/- What seal and Seal hand back. -/
import Derived.Test.YtppnicdhahgigaaDoorSum3
import Derived.Test.YtppnicdhahgigaaDoorSum4
import Derived.Test.YtppnicdhahgigaaDoorSame
import Derived.Laws.CopyOwn
namespace Go.Proofs.YtppnicdhahgigaaDoor
open Go.RowKit SumMath WordMath
theorem u64_size : (Tryd.prog.info? 44).map (·.size) = some 1 := by kernel_rfl
def CopyFrom (w1 : World) (A : Option Addr) (l : List Nat) (d : Option Addr) : Prop :=
    0 < (wv l).length → d = d ∧ ∃ ad, A = some ad ∧ ∀ j v, (wv l)[j]? = some v → w1.cell? (ad.add j) = some v
theorem copy_from {w w1 : World} {A : Option Addr} {l : List Nat} (d : Option Addr) (hr : Row w A l) (hb : Below w.heap.size w w1) : CopyFrom w1 A l d := by
  intro hp
  rw [wv_length] at hp
  obtain ⟨ad, e, _, hc⟩ := hr.below hb hp
  refine ⟨rfl, ad, e, fun j v hv => ?_⟩
  have hj : j < l.length := by
    rcases Nat.lt_or_ge j l.length with h | h
    · exact h
    · rw [List.getElem?_eq_none (by rw [wv_length]; exact h)] at hv; cases hv
  rw [wv_get l j hj] at hv
  rw [hc j hj]; exact hv
theorem Row.take {w : World} {A : Option Addr} {l : List Nat} (h : Row w A l) (n : Nat) : Row w A (l.take n) := fun h0 => by
  rw [List.length_take] at h0
  obtain ⟨ad, e, hl, hc⟩ := h (by omega)
  refine ⟨ad, e, hl, fun k hk => ?_⟩
  rw [List.length_take] at hk
  rw [hc k (by omega)]
  simp only [List.getD_eq_getElem?_getD]
  rw [List.getElem?_take_of_lt (by omega)]
theorem Wd.take {l : List Nat} (h : Wd l) (n : Nat) : Wd (l.take n) := Wd.of_mem fun x hx => h.mem x (List.mem_of_mem_take hx)
theorem seal_key (l : List Nat) (hx : wordsV l < 4294967296) : bits .or .u64 (((wordsV l ^^^ M : Nat) : Int) * 4294967296) (wordsV l : Nat) = ((sealW l : Nat) : Int) := by
  have h1 := flip_lt hx
  have e : (((wordsV l ^^^ M : Nat) : Int) * 4294967296) = (((wordsV l ^^^ M) * 4294967296 : Nat) : Int) := by simp
  rw [e, u64_or_nat _ _ (by omega) (by omega)]
  unfold sealW
  congr 1
  rw [Nat.mul_comm]
  exact (Nat.two_pow_add_eq_or_of_lt (i := 32) (show wordsV l < 2 ^ 32 by simpa using hx) _).symm
theorem seal_calls (A : Option Addr) (l : List Nat) (c : Nat) (w : World) (hr : Row w A l) (hl : Wd l) (hlen : l.length ≤ 1099511627776) (hT : TabAt w) :
    Calls Tryd.prog 30 #[.slice A l.length c] w fun e W' => e = .returned (.int .u64 ((sealW l : Nat) : Int)) ∧ Below w.heap.size w W' := by
  have hx := wordsV_lt hl.mem
  have hfx := flip_lt hx
  have k1 := Lib.hid (flip_key _ hx)
  have k2 := Lib.hid (seal_key l hx)
  generalize wordsV l ^^^ M = y at *
  have w1' : Hid (IntKind.u64.wrap (y : Int) = (y : Int)) := by
    show IntKind.u64.wrap (y : Int) = _
    rw [IntKind.wrap_u64]; omega
  have w2' : Hid (IntKind.u64.wrap ((y : Int) * 4294967296) = (y : Int) * 4294967296) := by
    show IntKind.u64.wrap ((y : Int) * 4294967296) = _
    rw [IntKind.wrap_u64]; omega
  go_enter Tryd.func30, Tryd.ntmps30
  go_wp2_with (first
    | (go_at_call 45; refine (words_calls A l c w hr hl hl.mem hlen hT).mono ?_; rintro e w1 ⟨rfl, hb1⟩)
    | rw [k1.out] | rw [k2.out])
  go_ret
  rw [w1'.out, w2'.out, k2.out]
  exact ⟨rfl, hb1⟩
theorem splice_front (l m : List Nat) (_ : l.length ≤ m.length) : splice (wv m) 0 (wv l) = wv (l ++ m.drop l.length) := by
  simp [splice, wv]
theorem sealed_set (l : List Nat) (x : Nat) : (l ++ [x]).set l.length (sealW l) = sealed l := by
  simp [sealed]
theorem seal_spliced {w1 : World} {g : Nat} {e : TypeId} {l : List Nat} (h : Hid (w1.heap[g]? = some (.cells (splice (wv (List.replicate (l.length + 1) 0)) 0 (wv l)).toArray e (0, 0)))) : Blk e w1 g (l ++ [0]) := by
  have := h.out
  rw [splice_front l _ (by simp)] at this
  simpa [Blk] using this
theorem Seal_calls2 (A : Option Addr) (l : List Nat) (c : Nat) (w : World) (hr : Row w A l) (hl : Wd l) (hlen : l.length ≤ 1099511627776) (hT : TabAt w) :
    Calls Tryd.prog 17 #[.slice A l.length c] w fun e w' => ∃ A' c', e = .returned (.slice A' (sealed l).length c') ∧ Row w' A' (sealed l) ∧ Fresh w.heap.size A' ∧ Below w.heap.size w w' ∧ (sealed l).length ≤ c' ∧ ∃ g, A' = some ⟨g, 0, none⟩ ∧ Blk 44 w' g (sealed l) := by
  have hmk := run_make_row' (P := Tryd.prog) 28 44 (.int .u64 0) 8 Tryd.underlying28 u64_info rfl .i64 .i64 (l.length + 1) (by omega) (by omega)
  have e1 : ((l.length + 1 : Nat) : Int) = (l.length : Int) + 1 := by simp
  rw [e1] at hmk
  have hcop := (copy_from (w := w) (w1 := w.alloc (.cells (madeCells #[.int .u64 0] (l.length + 1)) 44)) (some ⟨w.heap.size, 0, none⟩) hr ((Below.refl _ _).alloc (Nat.le_refl _) _))
  have HT := Lib.hid hT
  clear hT
  go_enter Tryd.func17, Tryd.ntmps17
  go_wp2_with (first
    | (refine wpList_copy_splice rfl (.tmp 8) (.tmp 9) 28 28 rfl 44 Tryd.underlying28 u64_size (some ⟨w.heap.size, 0, none⟩) A (l.length + 1) (l.length + 1) l.length c rfl rfl w.heap.size 0 (wv (List.replicate (l.length + 1) 0)) 44 (Blk.new w 44 (l.length + 1)) (wv l) (by simp [wv_length]) hcop (by simp [wv_length]) (wv_one l) w.heap.size w ((Below.refl _ _).alloc (Nat.le_refl _) _) (Nat.le_refl _) ?_; intro w1 hg1 hb1; have hB1 := seal_spliced hg1; clear hg1)
    | (go_at_call 30; refine (seal_calls A l c w1 (hr.below hb1) hl hlen (HT.out.below hb1)).mono ?_; rintro e w2 ⟨rfl, hb2⟩; have hB2 := hB1.below hb2 hB1.lt; have hc2 := hB2.cell l.length (by simp); have hf2 := hB2.frozen l.length))
  go_ret
  have hblk := hB2.set l.length (sealW l)
  rw [sealed_set] at hblk
  have hrow := hblk.row
  have hlen' : (sealed l).length = l.length + 1 := by simp [sealed]
  exact ⟨some ⟨w.heap.size, 0, none⟩, l.length + 1, by rw [hlen']; rfl, hrow, Fresh.at (Nat.le_refl _), (hb1.trans (hb2.mono hb1.size)).setCell (p := ⟨w.heap.size, l.length, none⟩) (Nat.le_refl _) _, by omega, _, rfl, hblk⟩
theorem Seal_calls (A : Option Addr) (l : List Nat) (c : Nat) (w : World) (hr : Row w A l) (hl : Wd l) (hlen : l.length ≤ 1099511627776) (hT : TabAt w) :
    Calls Tryd.prog 17 #[.slice A l.length c] w fun e w' => ∃ A' c', e = .returned (.slice A' (sealed l).length c') ∧ Row w' A' (sealed l) ∧ Fresh w.heap.size A' ∧ Below w.heap.size w w' ∧ (sealed l).length ≤ c' :=
  (Seal_calls2 A l c w hr hl hlen hT).mono fun _ _ ⟨A', c', h1, h2, h3, h4, h5, _⟩ => ⟨A', c', h1, h2, h3, h4, h5⟩
/-- What Open answers. -/
def openL (l : List Nat) : List Nat := if isSealed l then l.take (l.length - 1) else []
def openB (l : List Nat) : Bool := decide (isSealed l)
theorem openL_yes {l : List Nat} (h : isSealed l) : openL l = l.take (l.length - 1) := if_pos h
theorem openL_no {l : List Nat} (h : ¬ isSealed l) : openL l = [] := if_neg h
theorem openB_yes {l : List Nat} (h : isSealed l) : openB l = true := decide_eq_true h
theorem openB_no {l : List Nat} (h : ¬ isSealed l) : openB l = false := decide_eq_false h
/-- It hands back a row of its own and a Bool; nothing that was there has turned. -/
def GivesB (l : List Nat) (b : Bool) (w : World) (e : Ending) (w' : World) : Prop :=
  ∃ A c, e = .returned (.tuple #[.slice A l.length c, .bool b]) ∧ Row w' A l ∧ Fresh w.heap.size A ∧ Below w.heap.size w w' ∧ l.length ≤ c
theorem isSealed_snoc (z : List Nat) (d : Nat) : isSealed (z ++ [d]) ↔ d = sealW z := by
  unfold isSealed
  simp
theorem openL_snoc_yes {z : List Nat} {d : Nat} (h : d = sealW z) : openL (z ++ [d]) = z := by
  rw [openL_yes ((isSealed_snoc z d).2 h)]; simp
theorem openL_snoc_no {z : List Nat} {d : Nat} (h : ¬ d = sealW z) : openL (z ++ [d]) = [] := openL_no fun hs => h ((isSealed_snoc z d).1 hs)
theorem openB_snoc (z : List Nat) (d : Nat) : openB (z ++ [d]) = decide (d = sealW z) := by
  unfold openB
  exact decide_eq_decide.2 (isSealed_snoc z d)
theorem Row.init {w : World} {A : Option Addr} {z : List Nat} {d : Nat} (h : Row w A (z ++ [d])) : Row w A z := by
  have := h.take z.length
  rwa [List.take_left] at this
theorem Row.last {w : World} {A : Option Addr} {z : List Nat} {d : Nat} (h : Row w A (z ++ [d])) : ∃ ad, A = some ad ∧ ad.block < w.heap.size ∧ w.cell? (ad.add z.length) = some (.int .u64 (d : Int)) := by
  obtain ⟨ad, e, hb, hc⟩ := h (by simp)
  have := hc z.length (by simp)
  rw [List.getD_eq_getElem?_getD, List.getElem?_concat_length, Option.getD_some] at this
  exact ⟨ad, e, hb, this⟩
theorem ropen_nil (A : Option Addr) (c : Nat) (w : World) : Calls Tryd.prog 32 #[.slice A 0 c] w (GivesB (openL []) (openB []) w) := by
  have hn : ¬ isSealed [] := fun h => absurd h.1 (by decide)
  have kv := Lib.hid (openL_no hn)
  have kb := Lib.hid (openB_no hn)
  clear hn
  go_enter Tryd.func32, Tryd.ntmps32
  go_wp2_with (fail)
  go_ret2
  rw [kv.out, kb.out]
  exact ⟨none, 0, rfl, Row.nil _ _, Fresh.none, Below.refl _ _, by simp⟩
theorem ropen_snoc (A : Option Addr) (z : List Nat) (d : Nat) (c : Nat) (w : World) (hr : Row w A (z ++ [d])) (hl : Wd (z ++ [d])) (hlen : z.length < 1099511627776) (hcap : z.length + 1 ≤ c) :
    Calls Tryd.prog 32 #[.slice A (z.length + 1) c] w (GivesB (openL (z ++ [d])) (openB (z ++ [d])) w) := by
  have ht : ((z.length : Int) + 1 == 0) = false := by rw [beq_eq_false_iff_ne]; omega
  obtain ⟨i0, hi0, hz0, hs0, hb0⟩ := info_parts u64_info
  have HZ := Lib.hid hz0
  have HS := Lib.hid hs0
  have HB := Lib.hid hb0
  have HI := Lib.hid hi0
  clear hz0 hs0 hb0 hi0
  have hrz := hr.init
  have hlz : Wd z := Wd.of_mem fun x hx => hl.mem x (List.mem_append_left _ hx)
  have hle : Hid ((z ++ [d]).length = z.length + 1) := by show (z ++ [d]).length = _; simp
  have hls : Hid ((sealed z).length = z.length + 1) := by show (sealed z).length = _; simp [sealed]
  by_cases hd : d = sealW z
  all_goals
    have hs : Hid (sameV (sealed z) (z ++ [d]) = decide (d = sealW z)) := by
      show sameV (sealed z) (z ++ [d]) = _
      unfold sameV sealed
      exact decide_eq_decide.2 ⟨fun h => by simpa using h.symm, fun h => by rw [h]⟩
    have kb0 := openB_snoc z d
    first
      | (have kv := Lib.hid (openL_snoc_yes hd); rw [decide_eq_true hd] at hs kb0)
      | (have kv := Lib.hid (openL_snoc_no hd); rw [decide_eq_false hd] at hs kb0)
    have kb := Lib.hid kb0
    clear hd kb0
    go_enter Tryd.func32, Tryd.ntmps32
    go_wp2_with (first
      | (at_builtin; refine wpList_cloneC rfl (.const (.slice none 0 0)) (.tmp 12) 28 rfl 44 i0 Tryd.underlying28 HI.out HZ.out HS.out HB.out A z c rfl rfl hrz (by omega) ?_; intro A1 c1 w1 hr1 hf1 hb1 _ hc1)
      | (go_at_call 14; refine (rseal_calls A1 z c1 w1 hr1 hlz (by omega)).mono ?_; rintro e w2 ⟨A2, c2, rfl, hr2, hf2, hb2, hc2⟩; rw [hls.out])
      | (go_at_call 11; have h := same_calls A2 A (sealed z) (z ++ [d]) c2 c w2 hr2 ((hr.below hb1).below hb2) (by rw [hls.out]; omega) (by rw [hle.out]; omega); rw [hls.out, hle.out] at h; refine h.mono ?_; clear h; rintro e w3 ⟨rfl, m, rfl⟩; rw [hs.out]))
    go_ret2
    rw [kv.out, kb.out]
    first
      | exact ⟨A1, c1, rfl, (hr1.below hb2).drewN m, hf1, below_drewN (hb1.trans (hb2.mono hb1.size)) m, hc1⟩
      | exact ⟨none, 0, rfl, Row.nil _ _, Fresh.none, below_drewN (hb1.trans (hb2.mono hb1.size)) m, by simp⟩
theorem ropen_calls (A : Option Addr) (l : List Nat) (c : Nat) (w : World) (hr : Row w A l) (hl : Wd l) (hlen : l.length ≤ 1099511627776) (hcap : l.length ≤ c) :
    Calls Tryd.prog 32 #[.slice A l.length c] w (GivesB (openL l) (openB l) w) := by
  rcases List.eq_nil_or_concat l with rfl | ⟨z, d, rfl⟩
  · exact ropen_nil A c w
  · rw [List.concat_eq_append] at *
    have h := ropen_snoc A z d c w hr hl (by simp at hlen; omega) (by simpa using hcap)
    rw [show (z ++ [d]).length = z.length + 1 by simp]
    exact h
end Go.Proofs.YtppnicdhahgigaaDoor
