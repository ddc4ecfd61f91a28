/- A table of locks in memory: made; which processes and locks there are; who holds one. -/
import Derived.Test.YthlodfahajaneaaKn
import Derived.Test.YthlodfahajaneaaKq
import Derived.Lib.Hide
set_option linter.unusedSimpArgs false
set_option linter.unusedVariables false
namespace Go.Proofs.Ythlodfahajaneaa
open Go Go.RowKit LockMath
/-- Numbers of a table. -/
structure Nm (n : Int) (Q : List (List Int)) : Prop where
  l0 : 0 < Q.length
  l1 : Q.length ≤ 128
  n0 : 1 ≤ n
  n1 : n ≤ 16
  inv : Inv Q
  rng : Rng Q n
theorem nodup_len : ∀ (m : Nat) {l : List Int}, l.Nodup → (∀ x ∈ l, 0 ≤ x ∧ x < (m : Int)) → l.length ≤ m
  | 0, l, _, h => by
    cases l with
    | nil => exact Nat.le_refl _
    | cons a r => have := h a (by simp); omega
  | m + 1, l, hn, h => by
    have h1 := nodup_len m (l := l.erase (m : Int)) (hn.erase _) (fun x hx => by
      have h2 := h x (List.mem_of_mem_erase hx)
      have h3 : x ≠ (m : Int) := fun e => by
        subst e
        exact absurd hx (fun hx => ((List.Nodup.mem_erase_iff hn).1 hx).1 rfl)
      omega)
    rw [List.length_erase] at h1
    split at h1 <;> omega
theorem Nm.len {n : Int} {Q : List (List Int)} (h : Nm n Q) (i : Nat) : (qu Q i).length ≤ 16 :=
  nodup_len 16 (h.inv.once i) fun x hx => by
    have := h.rng i x hx
    have := h.n1
    omega
/-- The program's table: a block of how many processes and its queues. -/
structure Tb (w0 w : World) (T G : Nat) (As : List (Option Addr × Nat)) (n : Int) (Q : List (List Int)) : Prop where
  blk : w.heap[T]? = some (.cells #[.int .i64 n, .slice (some ⟨G, 0, none⟩) Q.length Q.length] 49 (0, 0))
  q : Qm w0 w 40 3 G As Q
  hT : w0.heap.size ≤ T
  nm : Nm n Q
section
variable {w0 w w1 : World} {T G i k : Nat} {As : List (Option Addr × Nat)} {n : Int} {Q : List (List Int)}
theorem Qm.at {ts te : TypeId} (h : Qm w0 w ts te G As Q) (hi : i < Q.length) (hk : k < (qu Q i).length) : ∃ g, qA As i = some ⟨g, 0, none⟩ ∧ w.cell? ⟨g, k, none⟩ = some (.int .i64 ((qu Q i).getD k 0)) := by
  obtain ⟨h1, h2, h3, h4⟩ := h.own i hi
  rcases h4 with ⟨_, h5⟩ | ⟨g, cur, h5, hg, h6, h7⟩
  · omega
  · refine ⟨g, h5, ?_⟩
    obtain ⟨ad, e, hc⟩ := (h.row hi).int hk
    rw [h5] at e
    injection e with e
    subst e
    rw [add_zero_block] at hc
    exact hc
theorem Tb.c0 (h : Tb w0 w T G As n Q) : w.cell? ⟨T, 0, none⟩ = some (.int .i64 n) := cell_of_row w T 0 _ _ _ h.blk
theorem Tb.c1 (h : Tb w0 w T G As n Q) : w.cell? ⟨T, 1, none⟩ = some (.slice (some ⟨G, 0, none⟩) Q.length Q.length) := cell_of_row w T 1 _ _ _ h.blk
theorem Tb.ltT (h : Tb w0 w T G As n Q) : T < w.heap.size := lt_of_cells h.blk
theorem Tb.below (h : Tb w0 w T G As n Q) (hb : Below w.heap.size w w1) : Tb w0 w1 T G As n Q :=
  ⟨(hb.block _ h.ltT).trans h.blk, h.q.below hb, h.hT, h.nm⟩
end
/-- There is such a process; such a lock. -/
def hasP (n p : Int) : Bool := decide (0 ≤ p ∧ p < n)
/-- Why it lacks the process. -/
def lackE (n p : Int) : Int := if hasP n p then 0 else 2
def hasL (Q : List (List Int)) (id : Int) : Bool := decide (0 ≤ id ∧ id < (Q.length : Int))
theorem lacks_calls {w0 w : World} {T G : Nat} {As : List (Option Addr × Nat)} {n : Int} {Q : List (List Int)} (h : Tb w0 w T G As n Q) (p : Int) :
    Calls Try.prog 22 #[.pointer (some ⟨T, 0, none⟩), .int .i64 p] w fun e w' => e = .returned (.int .i64 (lackE n p)) ∧ w = w' := by
  have y0 := h.c0
  by_cases h0 : 0 ≤ p
  · by_cases h1 : p < n
    · have kv : Hid (lackE n p = 0) := by
        show _ = _
        unfold lackE hasP
        rw [if_pos (by simp [h0, h1])]
      go_enter Try.func22, Try.ntmps22
      go_wp2
      go_ret
      rw [kv.out]
      exact ⟨rfl, rfl⟩
    · have kv : Hid (lackE n p = 2) := by
        show _ = _
        unfold lackE hasP
        rw [if_neg (by simp [h1])]
      have h2 : n ≤ p := by omega
      clear h1
      go_enter Try.func22, Try.ntmps22
      go_wp2
      go_ret
      rw [kv.out]
      exact ⟨rfl, rfl⟩
  · have kv : Hid (lackE n p = 2) := by
      show _ = _
      unfold lackE hasP
      rw [if_neg (by simp [h0])]
    have h2 : p < 0 := by omega
    clear h0
    go_enter Try.func22, Try.ntmps22
    go_wp2
    go_ret
    rw [kv.out]
    exact ⟨rfl, rfl⟩
theorem lacks_nil (w : World) (p : Int) : Calls Try.prog 22 #[.pointer none, .int .i64 p] w fun e w' => e = .returned (.int .i64 1) ∧ w = w' := by
  go_enter Try.func22, Try.ntmps22
  go_wp2
  go_ret
  exact ⟨rfl, rfl⟩
theorem has_calls {w0 w : World} {T G : Nat} {As : List (Option Addr × Nat)} {n : Int} {Q : List (List Int)} (h : Tb w0 w T G As n Q) (id : Int) :
    Calls Try.prog 26 #[.pointer (some ⟨T, 0, none⟩), .int .i64 id] w fun e w' => e = .returned (.bool (hasL Q id)) ∧ w = w' := by
  have y1 := h.c1
  have hm := h.nm.l1
  have hu : hasL Q id = decide (0 ≤ id ∧ id < (Q.length : Int)) := rfl
  generalize hasL Q id = r at *
  generalize Q.length = m at *
  by_cases h0 : 0 ≤ id
  · have kv : Hid (r = decide (id < (m : Int))) := by
      show _ = _
      rw [hu]; simp [h0]
    clear hu
    go_enter Try.func26, Try.ntmps26
    go_wp2
    go_ret
    rw [kv.out]
    exact ⟨rfl, rfl⟩
  · have kv : Hid (r = false) := by
      show _ = _
      rw [hu]; simp [h0]
    clear hu
    have h2 : decide (0 ≤ id) = false := by simp; omega
    go_enter Try.func26, Try.ntmps26
    go_wp2
    go_ret
    rw [kv.out]
    exact ⟨rfl, rfl⟩
theorem has_nil (w : World) (id : Int) : Calls Try.prog 26 #[.pointer none, .int .i64 id] w fun e w' => e = .returned (.bool false) ∧ w = w' := by
  go_enter Try.func26, Try.ntmps26
  go_wp2
  go_ret
  exact ⟨rfl, rfl⟩
/-- Who holds it. -/
def headO (Q : List (List Int)) (id : Int) : Option Int := if 0 ≤ id then (qu Q id.toNat).head? else none
def two (o : Option Int) : Value := .tuple #[.int .i64 (o.getD 0), .bool o.isSome]
theorem head_bad {Q : List (List Int)} {id : Int} (h : hasL Q id = false) : headO Q id = none := by
  unfold headO
  split
  · rename_i h0
    have : Q.length ≤ id.toNat := by
      have := of_decide_eq_false h
      omega
    rw [qu_out this]; rfl
  · rfl
theorem holder_calls {w0 w : World} {T G : Nat} {As : List (Option Addr × Nat)} {n : Int} {Q : List (List Int)} (h : Tb w0 w T G As n Q) (id : Int) :
    Calls Try.prog 20 #[.pointer (some ⟨T, 0, none⟩), .int .i64 id] w fun e w' => e = .returned (two (headO Q id)) ∧ w = w' := by
  have ch := Lib.hid (has_calls h id)
  cases hb : hasL Q id with
  | false =>
    have kv := Lib.hid (head_bad hb)
    rw [hb] at ch
    clear hb
    go_enter Try.func20, Try.ntmps20
    go_wp2_with (go_at_call 26; refine ch.out.mono ?_; rintro e w' ⟨rfl, rfl⟩)
    go_ret2
    rw [kv.out]
    exact ⟨rfl, rfl⟩
  | true =>
    rw [hb] at ch
    have hb := of_decide_eq_true hb
    obtain ⟨i, rfl⟩ := Int.eq_ofNat_of_zero_le hb.1
    have hi : i < Q.length := by omega
    have y1 := h.c1
    have yq := h.q.cell hi
    have hm := h.nm.l1
    have hl16 := h.nm.len i
    have hH : headO Q (i : Int) = (qu Q i).head? := by
      unfold headO
      rw [if_pos (by omega), Int.toNat_natCast]
    cases hl : qu Q i with
    | nil =>
      have kv : Hid (headO Q (i : Int) = none) := by
        show _ = _
        rw [hH, hl]; rfl
      rw [hl] at yq
      simp only [List.length_nil] at yq
      clear hH hl hb hl16
      generalize Q.length = m at *
      generalize qA As i = A at *
      generalize qC As i = C at *
      go_enter Try.func20, Try.ntmps20
      go_wp2_with (go_at_call 26; refine ch.out.mono ?_; rintro e w' ⟨rfl, rfl⟩)
      go_ret2
      rw [kv.out]
      exact ⟨rfl, rfl⟩
    | cons x r =>
      have kv : Hid (headO Q (i : Int) = some x) := by
        show _ = _
        rw [hH, hl]; rfl
      obtain ⟨g, hA, y2⟩ := h.q.at hi (k := 0) (by rw [hl]; simp)
      rw [hA] at yq
      rw [hl] at y2 yq hl16
      simp only [List.getD_cons_zero] at y2
      have hlen : (x :: r).length ≠ 0 := by simp
      generalize (x :: r).length = L at *
      have hL0 : ((L : Int) == 0) = false := by
        rw [beq_eq_false_iff_ne]; omega
      have hL1 : (0 : Int) < (L : Int) := by omega
      clear hH hl hb hlen hA
      generalize Q.length = m at *
      generalize qC As i = C at *
      go_enter Try.func20, Try.ntmps20
      go_wp2_with (go_at_call 26; refine ch.out.mono ?_; rintro e w' ⟨rfl, rfl⟩)
      go_ret2
      rw [kv.out]
      exact ⟨rfl, rfl⟩
theorem holder_nil (w : World) (id : Int) : Calls Try.prog 20 #[.pointer none, .int .i64 id] w fun e w' => e = .returned (two none) ∧ w = w' := by
  have ch := Lib.hid (has_nil w id)
  go_enter Try.func20, Try.ntmps20
  go_wp2_with (go_at_call 26; refine ch.out.mono ?_; rintro e w' ⟨rfl, rfl⟩)
  go_ret2
  exact ⟨rfl, rfl⟩
/-- There may be such a table. -/
def mayT (a b : Int) : Bool := decide (1 ≤ a ∧ a ≤ 128 ∧ 1 ≤ b ∧ b ≤ 16)
theorem slices_info : (Try.prog.info? 40).map (fun i => (i.zero, i.size, i.bytes)) = some (some (.slice none 0 0), 1, 24) := by kernel_rfl
theorem new_bad (a b : Int) (w : World) (h : mayT a b = false) :
    Calls Try.prog 9 #[.int .i64 a, .int .i64 b] w fun e w' => e = .returned (.tuple #[.pointer none, .int .i64 2]) ∧ w = w' := by
  have h := of_decide_eq_false h
  by_cases h1 : a < 1
  · go_enter Try.func9, Try.ntmps9
    go_wp2
    go_ret2
    exact ⟨rfl, rfl⟩
  · by_cases h2 : 128 < a
    · go_enter Try.func9, Try.ntmps9
      go_wp2
      go_ret2
      exact ⟨rfl, rfl⟩
    · by_cases h3 : b < 1
      · go_enter Try.func9, Try.ntmps9
        go_wp2
        go_ret2
        exact ⟨rfl, rfl⟩
      · have h4 : 16 < b := by omega
        clear h
        go_enter Try.func9, Try.ntmps9
        go_wp2
        go_ret2
        exact ⟨rfl, rfl⟩
theorem Nm.start {n : Int} {m : Nat} (h0 : 0 < m) (h1 : m ≤ 128) (h2 : 1 ≤ n) (h3 : n ≤ 16) : Nm n (List.replicate m []) :=
  ⟨by simpa using h0, by simpa using h1, h2, h3, Inv.start m, Rng.start m n⟩
theorem new_calls (m : Nat) (b : Int) (w : World) (h : mayT (m : Int) b = true) :
    Calls Try.prog 9 #[.int .i64 (m : Int), .int .i64 b] w fun e w' => ∃ T G, e = .returned (.tuple #[.pointer (some ⟨T, 0, none⟩), .int .i64 0]) ∧ Tb w w' T G (List.replicate m (none, 0)) b (List.replicate m []) ∧ Below w.heap.size w w' := by
  have h := of_decide_eq_true h
  have h1 : 1 ≤ (m : Int) := by omega
  have h2 : (m : Int) ≤ 128 := by omega
  have h3 : 1 ≤ b := by omega
  have h4 : b ≤ 16 := by omega
  have hmk := run_make_row' (P := Try.prog) 47 40 (.slice none 0 0) 24 Try.underlying47 slices_info rfl .i64 .i64 m (by omega) (by omega)
  clear h
  go_enter Try.func9, Try.ntmps9
  go_wp2
  go_ret2
  have hb : Below w.heap.size w (w.alloc (.cells (madeCells #[.slice none 0 0] m) 40)) := (Below.refl _ _).alloc (Nat.le_refl _) _
  refine ⟨w.heap.size + 1, w.heap.size, rfl, ⟨?_, ?_, by omega, Nm.start (by omega) (by omega) h3 h4⟩, hb.alloc hb.size _⟩
  · rw [List.length_replicate]
    have := heap_alloc_new (w.alloc (.cells (madeCells #[.slice none 0 0] m) 40)) (.cells #[.int .i64 b, .slice (some ⟨w.heap.size, 0, none⟩) m m] 49)
    simpa using this
  · refine Qm.start (by decide) (Nat.le_refl _) (cur := madeCells #[.slice none 0 0] m) ?_ fun i hi => ?_
    · exact (Below.heap_alloc _ _ _ (by simp)).trans (heap_alloc_new w _)
    · simp [madeCells, hi, Nat.mod_one]
end Go.Proofs.Ythlodfahajaneaa
