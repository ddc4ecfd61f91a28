/- What Open hands back: a region that draws its order, with a call in it that makes memory. -/
import Derived.Test.YtppnicdhahgigaaDoorSum5
import Derived.Lib.QuietBelow
namespace Go.Proofs.YtppnicdhahgigaaDoor
open Go.RowKit SumMath WordMath Go.Sort
theorem blk_spliced {w1 : World} {g : Nat} {e : TypeId} {l : List Nat} (h : Hid (w1.heap[g]? = some (.cells (splice (wv (List.replicate l.length 0)) 0 (wv l)).toArray e (0, 0)))) : Blk e w1 g l := by
  have := h.out
  rw [splice_front l _ (by simp)] at this
  simpa [Blk] using this
theorem open_nil (A : Option Addr) (c : Nat) (w : World) : Calls Tryd.prog 26 #[.slice A 0 c] w (GivesB (openL []) (openB []) w) := by
  have hn : ¬ isSealed [] := fun h => absurd h.1 (by decide)
  have kv := Lib.hid (openL_no hn)
  have kb := Lib.hid (openB_no hn)
  clear hn
  go_enter Tryd.func26, Tryd.ntmps26
  go_wp2_with (fail)
  refine wp_region_quiet_below (by kernel_rfl) (by kernel_rfl) ?_
  repeat (first | go_big_quiet_step (fail) | quiet_step (fail))
  refine wpQuiet_nil ?_
  intro _ hw'
  obtain ⟨⟨dq, osq⟩, hw''⟩ := hw'
  subst hw''
  go_wp2_with (fail)
  go_ret2
  rw [kv.out, kb.out]
  exact ⟨none, 0, rfl, Row.nil _ _, Fresh.none, below_regrown w dq osq, by simp⟩
theorem open_snoc (A : Option Addr) (z : List Nat) (d : Nat) (c : Nat) (w : World) (hr : Row w A (z ++ [d])) (hl : Wd (z ++ [d])) (hlen : z.length < 1099511627776) (hcap : z.length + 1 ≤ c) (hT : TabAt w) :
    Calls Tryd.prog 26 #[.slice A (z.length + 1) c] w (GivesB (openL (z ++ [d])) (openB (z ++ [d])) w) := by
  have hrz := hr.init
  have hlz : Wd z := Wd.of_mem fun x hx => hl.mem x (List.mem_append_left _ hx)
  obtain ⟨ad, rfl, hbl, hlast⟩ := hr.last
  have k0 := cell_regrown hlast
  have hmk := run_make_row' (P := Tryd.prog) 28 44 (.int .u64 0) 8 Tryd.underlying28 u64_info rfl .i64 .i64 z.length (by omega) (by omega)
  have cS : ∀ dq os, Calls Tryd.prog 30 #[.slice (some ad) z.length c] (grow (redrawn w dq) os) fun e w'' => e = .returned (.int .u64 ((sealW z : Nat) : Int)) ∧ ∃ p : Regrown, w'' = grow (redrawn w p.d) p.os :=
    fun dq os => Calls.regrown_of (seal_calls (some ad) z c _ (hrz.below (below_regrown w dq os)) hlz (by omega) (hT.below (below_regrown w dq os)))
  have n1 : z.length ≤ c := by omega
  have n2 : decide ((z.length : Int) < 0) = false := by rw [decide_eq_false_iff_not]; omega
  have hx := sealW_lt hlz.mem
  by_cases hd : d = sealW z
  all_goals
    have kb0 := openB_snoc z d
    first
      | (have kv := Lib.hid (openL_snoc_yes hd); have ht : ((d : Int) != (sealW z : Nat)) = false := (by rw [hd]; simp); rw [decide_eq_true hd] at kb0)
      | (have kv := Lib.hid (openL_snoc_no hd); have ht : ((d : Int) != (sealW z : Nat)) = true := (by rw [bne_iff_ne]; omega); rw [decide_eq_false hd] at kb0)
    have kb := Lib.hid kb0
    clear hd kb0
    go_enter Tryd.func26, Tryd.ntmps26
    go_wp2_with (fail)
    refine wp_region_quiet_below (by kernel_rfl) (by kernel_rfl) ?_
    repeat (first | go_big_quiet_step (exact cS _ _) | quiet_step (exact cS _ _))
    refine wpQuiet_nil ?_
    intro _ hw'
    obtain ⟨⟨dq, osq⟩, hw''⟩ := hw'
    subst hw''
    have hb1 := below_regrown w dq osq
    clear k0 cS
    generalize grow (redrawn w dq) osq = w1 at *
    have hcop := copy_from (some ⟨w1.heap.size, 0, none⟩) hrz (hb1.alloc (o := .cells (madeCells #[.int .u64 0] z.length) 44) hb1.size)
    go_wp2_with (
      (refine wpList_copy_splice rfl (.tmp 24) (.tmp 25) 28 28 rfl 44 Tryd.underlying28 u64_size (some ⟨w1.heap.size, 0, none⟩) (some ad) z.length z.length (z.length + 1) c rfl rfl w1.heap.size 0 (wv (List.replicate z.length 0)) 44 (Blk.new w1 44 z.length) (wv z) (by simp [wv_length]) hcop (by simp [wv_length]) (wv_one z) w.heap.size w (hb1.alloc hb1.size _) hb1.size ?_; intro w2 hg2 hb2; have hB2 := blk_spliced hg2; clear hg2))
    go_ret2
    rw [kv.out, kb.out]
    first
      | exact ⟨some ⟨w1.heap.size, 0, none⟩, z.length, rfl, hB2.row, Fresh.at hb1.size, hb2, Nat.le_refl _⟩
      | exact ⟨none, 0, rfl, Row.nil _ _, Fresh.none, hb1, by simp⟩
theorem open_calls (A : Option Addr) (l : List Nat) (c : Nat) (w : World) (hr : Row w A l) (hl : Wd l) (hlen : l.length ≤ 1099511627776) (hcap : l.length ≤ c) (hT : TabAt w) :
    Calls Tryd.prog 26 #[.slice A l.length c] w (GivesB (openL l) (openB l) w) := by
  rcases List.eq_nil_or_concat l with rfl | ⟨z, d, rfl⟩
  · exact open_nil A c w
  · rw [List.concat_eq_append] at *
    have h := open_snoc A z d c w hr hl (by simp at hlen; omega) (by simpa using hcap) hT
    rw [show (z ++ [d]).length = z.length + 1 by simp]
    exact h
end Go.Proofs.YtppnicdhahgigaaDoor
