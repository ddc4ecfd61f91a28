/- Rows of entries in memory: as cells, compared, copied; which lists may be laid. -/
import Derived.Test.YtphjppnkackmmaaKit
import Derived.Test.YtphjppnkackmmaaProg
import Derived.Test.YtphjppnkackmmaaYm
import Derived.Test.YtphjppnkackmmaaCel
import Derived.Test.YtphjppnkackmmaaSum3
import Derived.Laws.StructEq
import Derived.Lib.Hide
import Derived.WalkSpells
import Derived.BigQuiet
set_option linter.unusedSimpArgs false
set_option linter.unusedVariables false
namespace Go.Proofs.Ytphjppnkackmmaa
open Go.RowKit SumMath WordMath
/-- As cells. -/
def ev : List Re → List Value
  | [] => []
  | p :: r => .int .i64 p.pos :: .int .u64 (p.word : Int) :: ev r
theorem ev_length (L : List Re) : (ev L).length = L.length * 2 := by
  induction L with
  | nil => rfl
  | cons p r ih => simp only [ev, List.length_cons, ih]; omega
theorem ev_one (L : List Re) : ∀ u ∈ ev L, u.oneCell' = true := by
  induction L with
  | nil => simp [ev]
  | cons p r ih =>
    intro u hu
    simp only [ev, List.mem_cons] at hu
    rcases hu with rfl | rfl | hu
    · rfl
    · rfl
    · exact ih u hu
theorem ev_append (L M : List Re) : ev (L ++ M) = ev L ++ ev M := by
  induction L with
  | nil => rfl
  | cons p r ih => simp only [List.cons_append, ev, ih]
theorem ev_get {L : List Re} : ∀ {k : Nat}, k < L.length → (ev L)[k * 2]? = some (.int .i64 (L.getD k re0).pos) ∧ (ev L)[k * 2 + 1]? = some (.int .u64 ((L.getD k re0).word : Int)) := by
  induction L with
  | nil => intro k h; cases h
  | cons q r ih =>
    intro k h
    cases k with
    | zero => exact ⟨rfl, rfl⟩
    | succ k =>
      obtain ⟨h1, h2⟩ := ih (show k < r.length by simpa using h)
      rw [show (k + 1) * 2 = k * 2 + 1 + 1 by omega]
      simp only [ev, List.getElem?_cons_succ]
      exact ⟨h1, h2⟩
theorem redo_info : (Try.prog.info? 38).map (fun i => (i.zero, i.size, i.bytes)) = some (some (.agg #[.int .i64 0, .int .u64 0]), 2, 16) := by kernel_rfl
theorem info_parts {P : Program} {t : TypeId} {z : Value} {s b : Nat} (h : (P.info? t).map (fun i => (i.zero, i.size, i.bytes)) = some (some z, s, b)) : ∃ i, P.info? t = some i ∧ i.zero = some z ∧ i.size = s ∧ i.bytes = b := by
  obtain ⟨i, hi, he⟩ := Option.map_eq_some_iff.1 h
  injection he with h1 h2
  injection h2 with h2 h3
  exact ⟨i, hi, h1, h2, h3⟩
theorem Cel.at0 {w : World} {A : Option Addr} {xs : List Value} (h : Cel w A xs) (h0 : 0 < xs.length) : ∃ b o, A = some ⟨b, o, none⟩ ∧ b < w.heap.size ∧ ∀ j u, xs[j]? = some u → w.cell? ⟨b, o + j, none⟩ = some u := by
  obtain ⟨⟨b, o, sp⟩, rfl, hlt, hc⟩ := h h0
  have h00 := hc 0 _ (List.getElem?_eq_getElem h0)
  have hsp : sp = none := by
    cases sp with
    | none => rfl
    | some q =>
      have e : (⟨b, o, some q⟩ : Addr).add 0 = ⟨b, o, some q⟩ := by simp [Addr.add]
      rw [e] at h00
      unfold World.cell? at h00
      split at h00
      · simp at h00
      · cases h00
  subst hsp
  refine ⟨b, o, rfl, hlt, fun j u hj => ?_⟩
  have := hc j u hj
  rw [show (⟨b, o, none⟩ : Addr).add j = ⟨b, o + j, none⟩ by
    unfold Addr.add
    by_cases hj : j = 0 <;> simp [hj]] at this
  exact this
/-- Element k's two cells. -/
theorem Cel.re {w : World} {A : Option Addr} {L : List Re} (h : Cel w A (ev L)) (h0 : 0 < L.length) : ∃ b o, A = some ⟨b, o, none⟩ ∧ b < w.heap.size ∧ ∀ k, k < L.length → w.cell? ⟨b, o + k * 2, none⟩ = some (.int .i64 (L.getD k re0).pos) ∧ w.cell? ⟨b, o + k * 2 + 1, none⟩ = some (.int .u64 ((L.getD k re0).word : Int)) := by
  obtain ⟨b, o, e, hlt, hc⟩ := h.at0 (by rw [ev_length]; omega)
  refine ⟨b, o, e, hlt, fun k hk => ?_⟩
  obtain ⟨h1, h2⟩ := ev_get hk
  exact ⟨hc _ _ h1, by rw [Nat.add_assoc]; exact hc _ _ h2⟩
/-- Its numbers are numbers that such a row may hold. -/
def RN (L : List Re) : Prop := ∀ k, k < L.length → -9223372036854775808 ≤ (L.getD k re0).pos ∧ (L.getD k re0).pos ≤ 9223372036854775807 ∧ (L.getD k re0).word < 18446744073709551616
/-- A row of the call's own (made at w). -/
def MineR (w w' : World) (A : Option Addr) (n c : Nat) (L : List Re) : Prop := OwnR w' 38 2 A n c (ev L) ∧ ∀ ad, A = some ad → w.heap.size ≤ ad.block
theorem MineR.nil (w w' : World) : MineR w w' none 0 0 [] := ⟨OwnR.nil _ _ _, fun ad h => by cases h⟩
theorem MineR.cel {w w' : World} {A : Option Addr} {n c : Nat} {L : List Re} (h : MineR w w' A n c L) : Cel w' A (ev L) := h.1.cel
theorem MineR.on {w w' w'' : World} {A : Option Addr} {n c : Nat} {L : List Re} (h : MineR w w' A n c L) (hb : Below w'.heap.size w' w'') : MineR w w'' A n c L :=
  ⟨h.1.keep fun ad e => hb.block _ (h.1.lt ad e), h.2⟩
theorem MineR.from {v w w' : World} {A : Option Addr} {n c : Nat} {L : List Re} (h : MineR w w' A n c L) (hb : v.heap.size ≤ w.heap.size) : MineR v w' A n c L :=
  ⟨h.1, fun ad e => Nat.le_trans hb (h.2 ad e)⟩
set_option maxRecDepth 100000 in
/-- 'append(nil, l...)'. -/
theorem run_rcl (A : Option Addr) (L : List Re) (c : Nat) (w : World) (ty : TypeId) (hc : Cel w A (ev L)) (hl : L.length ≤ 1099511627776) :
    ∃ B cB w', (Builtin.append_ #[28, 28] ty #[.slice none 0 0, .slice A L.length c]).run Try.prog w = .ok (.slice B L.length cB) w' ∧ MineR w w' B L.length cB L ∧ Below w.heap.size w w' := by
  obtain ⟨i0, hi, hz0, hz1, hz2⟩ := info_parts redo_info
  rcases A with _ | ad
  · have h0 : L = [] := by
      cases L with
      | nil => rfl
      | cons x r => obtain ⟨ad, h, _⟩ := hc (by rw [ev_length]; simp); cases h
    subst h0
    refine ⟨none, 0, w, ?_, ⟨OwnR.nil _ _ _, fun ad h => by cases h⟩, Below.refl _ _⟩
    simp [Builtin.append_, run_underlying Try.underlying28, sizeOf, typeInfo, hi, Builtin.lenOf, Builtin.firstCells]
  · have hcell : ∀ j u, (ev L)[j]? = some u → w.cell? (ad.add j) = some u := by
      intro j u hu
      obtain ⟨ad', h, _, hcc⟩ := hc (by have := (List.getElem?_eq_some_iff.1 hu).1; omega)
      injection h with h
      subst h
      exact hcc j u hu
    obtain ⟨v', w', hrun, h2, h3, _⟩ := run_append_own (P := Try.prog) w w.heap.size 28 ty 38 i0 (.agg #[.int .i64 0, .int .u64 0]) 2 16 Try.underlying28 hi hz0 hz1 hz2 rfl (by decide) (.slice none 0 0) 0 [] (World.ownsRow_nil _ _ _ _) ad L.length c (ev L) (ev_length L) hcell (ev_one L) (by unfold maxLen; omega) (by omega) (Nat.le_refl _)
    simp only [Nat.zero_add, List.nil_append] at hrun h2
    obtain ⟨B, cB, rfl, hO, hb⟩ := OwnR.of_own h2
    exact ⟨B, cB, w', hrun, ⟨hO, hb⟩, (Below.refl _ _).grown h3 (Nat.le_refl _) (fun k hk => by simp [Value.ownBlock] at hk)⟩
theorem wpList_rcl {w : World} {ops : Array Oper} {rest : List Oper} {o : Oper} {a : Act} {Q : Exit → Act → World → Prop} (hgd : o.guard = none) (s x : Operand)
    (ho : o.op = .call { callee := .builtin .append, args := #[s, x], argTypes := #[28, 28] })
    (A : Option Addr) (L : List Re) (n c : Nat) (hn : L.length = n) (hs : a.eval s = .slice none 0 0) (hx : a.eval x = .slice A n c) (hr : Cel w A (ev L)) (hlen : L.length ≤ 1099511627776)
    (h : ∀ B cB w', MineR w w' B n cB L → Below w.heap.size w w' → wpList Try.prog ops Q rest (a.put o.dst (.slice B n cB)) w') : wpList Try.prog ops Q (o :: rest) a w :=
  wpList_plain hgd fun _ hK => by
    subst hn
    obtain ⟨B, cB, w', hrun, h2, h3⟩ := run_rcl A L c w o.type hr hlen
    unfold Oper.wp execOp
    simp only [ho, resolve, invoke, builtin, Sem.run_bind, Sem.run_pure, Result.andThen_ok, List.map_toArray, List.map_cons, List.map_nil, hs, hx, hrun]
    exact hK _ _ (h B cB w' h2 h3)
/-! ### which are the same -/
def eqE1 (a : Int) (b : Nat) (c : Int) (d : Nat) : Bool := decide (a = c) && decide (b = d)
set_option maxRecDepth 100000 in
theorem eqRe (a : Int) (b : Nat) (c : Int) (d : Nat) (w : World) :
    (Op.equalIn 10000 38 (.agg #[.int .i64 a, .int .u64 (b : Int)]) (.agg #[.int .i64 c, .int .u64 (d : Int)])).run Try.prog w = .ok (eqE1 a b c d) w := by
  have u1 := Try.underlying3
  have a1 := Try.isAgg3
  have z1 := Try.sizeOf3
  have u2 := Try.underlying31
  have a2 := Try.isAgg31
  have z2 := Try.sizeOf31
  have hS : Try.prog.underlying 38 = some (.struct (Try.prog.fieldsOf 38)) := by kernel_rfl
  have hp : Try.prog.stoodInHeld 38 = false := by kernel_rfl
  rw [show (10000 : Nat) = 9999 + 1 from rfl, run_equalIn_agg w 9999 38 _ _ hS hp]
  simp only [Program.fieldsOf, Try.underlying38]
  go_simp
  unfold eqE1
  by_cases h1 : a = c <;> by_cases h2 : b = d <;> simp [h1, h2] <;> omega
def AlikeR (L M : List Re) (k : Nat) : Prop := ∀ j, j < k → L[j]? = M[j]?
theorem AlikeR.more {L M : List Re} {k : Nat} (h : AlikeR L M k) (e : L[k]? = M[k]?) : AlikeR L M (k + 1) := fun j hj => by
  by_cases h1 : j < k
  · exact h j h1
  · obtain rfl : j = k := by omega
    exact e
theorem AlikeR.eq {L M : List Re} (h : AlikeR L M L.length) (hl : L.length = M.length) : L = M := by
  apply List.ext_getElem?
  intro i
  by_cases hi : i < L.length
  · exact h i hi
  · rw [List.getElem?_eq_none (by omega), List.getElem?_eq_none (by omega)]
theorem re_ext {p q : Re} (h1 : p.pos = q.pos) (h2 : p.word = q.word) : p = q := by cases p; cases q; simp only at h1 h2; rw [h1, h2]
instance : DecidableEq Re := fun p q => if h : p.pos = q.pos ∧ p.word = q.word then isTrue (re_ext h.1 h.2) else isFalse (by rintro rfl; exact h ⟨rfl, rfl⟩)
def rowsB (L M : List Re) : Bool := decide (L = M)
theorem rowsB_self (L : List Re) : rowsB L L = true := decide_eq_true rfl
theorem rowsB_no {L M : List Re} (h : L ≠ M) : rowsB L M = false := decide_eq_false h
theorem eqE1_yes (a : Int) (b : Nat) : eqE1 a b a b = true := by simp [eqE1]
theorem eqE1_no {p q : Re} (h : p ≠ q) : eqE1 p.pos p.word q.pos q.word = false := by
  cases hb : eqE1 p.pos p.word q.pos q.word
  · rfl
  · simp only [eqE1, Bool.and_eq_true, decide_eq_true_eq] at hb
    exact absurd (re_ext hb.1 hb.2) h
theorem re_some {L : List Re} {k : Nat} (h : k < L.length) : L[k]? = some (L.getD k re0) := by
  rw [List.getD_eq_getElem?_getD, List.getElem?_eq_getElem h]; rfl
set_option maxRecDepth 100000 in
theorem rsame_calls (A B : Option Addr) (L M : List Re) (c d : Nat) (w : World) (ha : Cel w A (ev L)) (hb : Cel w B (ev M)) (hlen : L.length ≤ 140737488355328) (hlen2 : M.length ≤ 140737488355328) :
    Calls Try.prog 12 #[.slice A L.length c, .slice B M.length d] w (Q (.bool (rowsB L M)) w) := by
  by_cases hn : L.length = M.length
  · obtain ⟨n, hLn⟩ : ∃ n, L.length = n := ⟨_, rfl⟩
    have hMn : M.length = n := by omega
    have HL := Lib.hid hLn
    have HM := Lib.hid hMn
    rw [hLn, hMn]
    rw [hLn] at hlen
    clear hn hLn hMn hlen2
    go_enter Try.func12, Try.ntmps12
    go_wp2_with (fail)
    go_loopw [5] (fun i wr => ∃ k : Nat, i = .int .i64 k ∧ k ≤ n ∧ Hid (AlikeR L M k) ∧ ∃ q, wr = w.drewN q) (fun i _ => n - (intOf i).toNat)
    case atStart => exact ⟨0, rfl, by omega, Lib.hid (fun j hj => absurd hj (by omega)), 0, rfl⟩
    case round =>
      obtain ⟨k, rfl, hk, hs, q, rfl⟩ := hrel
      by_cases h1 : k < n
      · obtain ⟨b1, o1, rfl, _, hca⟩ := ha.re (by rw [HL.out]; omega)
        obtain ⟨b2, o2, rfl, _, hcb⟩ := hb.re (by rw [HM.out]; omega)
        have HP := Lib.hid (re_some (L := L) (k := k) (by rw [HL.out]; exact h1))
        have HR := Lib.hid (re_some (L := M) (k := k) (by rw [HM.out]; exact h1))
        obtain ⟨e1, e2⟩ := hca k (by rw [HL.out]; exact h1)
        obtain ⟨e3, e4⟩ := hcb k (by rw [HM.out]; exact h1)
        clear hca hcb
        generalize L.getD k re0 = p at *
        generalize M.getD k re0 = r at *
        by_cases he : p = r
        · subst he
          have hE := fun w => eqRe p.pos p.word p.pos p.word w
          rw [eqE1_yes] at hE
          have hs' := Lib.hid (hs.out.more (HP.out.trans HR.out.symm))
          go_wp2_with (fail)
          go_quiet (fail)
          go_wp2_with (fail)
          go_roundw
          case rel => exact ⟨k + 1, by go_num, by omega, hs', _, rfl⟩
          case measure => simp [intOf]; omega
        · have hE := fun w => eqRe p.pos p.word r.pos r.word w
          rw [eqE1_no he] at hE
          have HV := Lib.hid (rowsB_no (L := L) (M := M) (by rintro rfl; exact he (Option.some.inj (HP.out.symm.trans HR.out))))
          clear he
          go_wp2_with (fail)
          go_quiet (fail)
          go_wp2_with (fail)
          go_ret
          rw [HV.out, World.drewN_drewN]
          exact Q.of
      · obtain rfl : k = n := by omega
        have HV : Hid (rowsB L M = true) := Lib.hid (by
          have h := hs.out
          rw [← HL.out] at h
          rw [h.eq (HL.out.trans HM.out.symm)]
          exact rowsB_self _)
        go_wp2_with (fail)
        go_ret
        rw [HV.out]
        exact Q.of
  · have HV : Hid (rowsB L M = false) := Lib.hid (rowsB_no (by rintro rfl; exact hn rfl))
    have hne : ((L.length : Int) == (M.length : Nat)) = false := by rw [beq_eq_false_iff_ne]; omega
    go_enter Try.func12, Try.ntmps12
    go_wp2_with (fail)
    go_ret
    rw [HV.out]
    exact Q.self
theorem rmay_long {L : List Re} (h : 64 < L.length) : rmayE L = 5 := if_pos h
theorem rmay_ok {L : List Re} (h : ¬ 64 < L.length) (ha : ∀ k, k < L.length → 0 ≤ (L.getD k re0).pos ∧ (L.getD k re0).pos < 1048576) : rmayE L = 0 := by
  unfold rmayE
  rw [if_neg h, if_pos]
  rw [List.all_eq_true]
  intro e he
  obtain ⟨k, hk, rfl⟩ := List.getElem_of_mem he
  have := ha k hk
  rw [List.getD_eq_getElem?_getD, List.getElem?_eq_getElem hk] at this
  exact decide_eq_true this
theorem rmay_bad {L : List Re} {k : Nat} (h : ¬ 64 < L.length) (hk : k < L.length) (hb : ¬ (0 ≤ (L.getD k re0).pos ∧ (L.getD k re0).pos < 1048576)) : rmayE L = 2 := by
  unfold rmayE
  rw [if_neg h, if_neg]
  rw [List.all_eq_true]
  intro ha
  have := ha (L.getD k re0) (by rw [List.getD_eq_getElem?_getD, List.getElem?_eq_getElem hk]; exact List.getElem_mem hk)
  exact hb (of_decide_eq_true this)
def GoodTo (L : List Re) (k : Nat) : Prop := ∀ j, j < k → 0 ≤ (L.getD j re0).pos ∧ (L.getD j re0).pos < 1048576
theorem GoodTo.more {L : List Re} {k : Nat} (h : GoodTo L k) (e : 0 ≤ (L.getD k re0).pos ∧ (L.getD k re0).pos < 1048576) : GoodTo L (k + 1) := fun j hj => by
  by_cases h1 : j < k
  · exact h j h1
  · obtain rfl : j = k := by omega
    exact e
end Go.Proofs.Ytphjppnkackmmaa
