/- Whoever stores all of the list has what everybody saw, wherever he is between two stores. -/
import Derived.Test.YtphjppnkackmmaaZn
set_option linter.unusedSimpArgs false
set_option linter.unusedVariables false
namespace Go.Proofs.Ytphjppnkackmmaa
open Go Go.RowKit SumMath WordMath
/-- A list among the arguments. -/
structure Lx where
  ka : Option Addr
  l : List Re
  kc : Nat
def lx0 : Lx := ⟨none, [], 0⟩
def LRow (w : World) (A : Option Addr) (l : List Lx) : Prop :=
  0 < l.length → ∃ b o, A = some ⟨b, o, none⟩ ∧ b < w.heap.size ∧ ∀ k, k < l.length → w.cell? ⟨b, o + k, none⟩ = some (.slice (l.getD k lx0).ka (l.getD k lx0).l.length (l.getD k lx0).kc)
structure LOK (w : World) (s : Lx) : Prop where
  cel : Cel w s.ka (ev s.l)
  len : s.l.length ≤ 9223372036854775807
  rn : RN s.l
/-- The table, the words, what is seen. -/
structure Ss (w u : World) (g b g6 g7 c6 c7 n : Nat) (T : List Re) (W S : List Nat) : Prop where
  ah : Ah u g b T
  r6 : OwnR u 31 1 (some ⟨g6, 0, none⟩) n c6 (wv W)
  r7 : OwnR u 31 1 (some ⟨g7, 0, none⟩) n c7 (wv S)
  on : Below w.heap.size w u
  ne : g6 ≠ g7
section
variable {w u u' : World} {g b g6 g7 c6 c7 n : Nat} {T U : List Re} {W S : List Nat}
theorem OwnR.blk {e : TypeId} {size c : Nat} {xs : List Value} (h : OwnR u e size (some ⟨g, 0, none⟩) n c xs) : ∃ cur, u.heap[g]? = some (.cells cur e (0, 0)) := by
  obtain ⟨_, _, _, h4⟩ := h
  rcases h4 with ⟨h4, _⟩ | ⟨gg, cur, h4, hg, _⟩
  · cases h4
  · injection h4 with h4
    injection h4 with h4
    subst h4
    exact ⟨cur, hg⟩
theorem OwnR.spotW {c : Nat} (h : OwnR u 31 1 (some ⟨g, 0, none⟩) n c (wv W)) {a : Nat} (ha : a < n) : u.cell? ⟨g, a, none⟩ = some (.int .u64 ((W.getD a 0 : Nat) : Int)) ∧ u.frozen? ⟨g, a, none⟩ = false := by
  have hl : W.length = n := by have := h.1; rw [wv_length] at this; omega
  obtain ⟨cur, hg⟩ := h.blk
  obtain ⟨b', o', e, _, hc⟩ := h.cel.at0 (by rw [wv_length]; omega)
  injection e with e
  injection e with e1 e2
  subst e1 e2
  have := hc a _ (wv_get W a (by omega))
  rw [Nat.zero_add] at this
  exact ⟨this, frozen_of hg⟩
theorem Ss.len6 (h : Ss w u g b g6 g7 c6 c7 n T W S) : W.length = n := by have := h.r6.1; rw [wv_length] at this; omega
theorem Ss.len7 (h : Ss w u g b g6 g7 c6 c7 n T W S) : S.length = n := by have := h.r7.1; rw [wv_length] at this; omega
theorem Ss.below (h : Ss w u g b g6 g7 c6 c7 n T W S) (hb : Below u.heap.size u u') : Ss w u' g b g6 g7 c6 c7 n T W S :=
  ⟨h.ah.below hb, h.r6.keep fun ad e => hb.block _ (h.r6.lt ad e), h.r7.keep fun ad e => hb.block _ (h.r7.lt ad e), h.on.trans (hb.mono h.on.size), h.ne⟩
theorem Ss.turn (h : Ss w u g b g6 g7 c6 c7 n T W S) (hg : u.grownBy u' (some b)) (hA : Ah u' g b U) (hb : w.heap.size ≤ b) : Ss w u' g b g6 g7 c6 c7 n U W S :=
  ⟨hA, h.r6.turned h.ah.map hg, h.r7.turned h.ah.map hg, h.on.grown hg h.on.size (fun j e => by injection e with e; omega), h.ne⟩
theorem Ss.row {R : Option Addr} {m c : Nat} {xs : List Value} (h : Ss w u g b g6 g7 c6 c7 n T W S) (ho : OwnR u 38 2 R m c xs) (hg : u.grownBy u' (R.map (·.block))) (hb : Below w.heap.size w u') : Ss w u' g b g6 g7 c6 c7 n T W S := by
  obtain ⟨cur6, h6⟩ := h.r6.blk
  obtain ⟨cur7, h7⟩ := h.r7.blk
  refine ⟨h.ah.keep (hg.block _ h.ah.ltg (ho.row_ne h.ah.at' (by decide))) (hg.block _ h.ah.ltb (ho.row_ne_map h.ah.map)), h.r6.keep fun ad e => ?_, h.r7.keep fun ad e => ?_, hb, h.ne⟩
  · injection e with e
    subst e
    exact hg.block _ (lt_of_cells h6) (ho.row_ne h6 (by decide))
  · injection e with e
    subst e
    exact hg.block _ (lt_of_cells h7) (ho.row_ne h7 (by decide))
theorem Ss.set6 (h : Ss w u g b g6 g7 c6 c7 n T W S) (h6 : w.heap.size ≤ g6) (a x : Nat) : Ss w (u.setCell ⟨g6, a, none⟩ (.int .u64 (x : Int))) g b g6 g7 c6 c7 n T (W.set a x) S := by
  obtain ⟨cur, hg⟩ := h.r6.blk
  have n1 := cells_type h.ah.at' hg (by decide)
  have n2 := h.ah.map.ne_cells hg
  refine ⟨h.ah.keep (Below.heap_setCell _ _ _ _ n1) (Below.heap_setCell _ _ _ _ (Ne.symm n2)), ?_, h.r7.other _ fun ad e => ?_, h.on.setCell h6 _, h.ne⟩
  · rw [wv_set]; exact h.r6.put a
  · injection e with e; subst e; exact fun e => h.ne e.symm
theorem Ss.set7 (h : Ss w u g b g6 g7 c6 c7 n T W S) (h7 : w.heap.size ≤ g7) (a x : Nat) : Ss w (u.setCell ⟨g7, a, none⟩ (.int .u64 (x : Int))) g b g6 g7 c6 c7 n T W (S.set a x) := by
  obtain ⟨cur, hg⟩ := h.r7.blk
  have n1 := cells_type h.ah.at' hg (by decide)
  have n2 := h.ah.map.ne_cells hg
  refine ⟨h.ah.keep (Below.heap_setCell _ _ _ _ n1) (Below.heap_setCell _ _ _ _ (Ne.symm n2)), h.r6.other _ fun ad e => ?_, ?_, h.on.setCell h7 _, h.ne⟩
  · injection e with e; subst e; exact h.ne
  · rw [wv_set]; exact h.r7.put a
end
theorem u64_info : (Try.prog.info? 31).map (fun i => (i.zero, i.size, i.bytes)) = some (some (.int .u64 0), 1, 8) := by kernel_rfl
/-- 'append(nil, l...)', of words. -/
theorem wpList_ucl {w : World} {ops : Array Oper} {rest : List Oper} {o : Oper} {a : Act} {Q : Exit → Act → World → Prop} (hgd : o.guard = none) (s x : Operand)
    (ho : o.op = .call { callee := .builtin .append, args := #[s, x], argTypes := #[46, 46] })
    (A : Option Addr) (l : List Nat) (n c : Nat) (hn : l.length = n) (hs : a.eval s = .slice none 0 0) (hx : a.eval x = .slice A n c) (hr : Row w A l) (hlen : l.length ≤ 17592186044416)
    (h : ∀ B cB w', OwnR w' 31 1 B n cB (wv l) → (∀ ad, B = some ad → w.heap.size ≤ ad.block) → Below w.heap.size w w' → wpList Try.prog ops Q rest (a.put o.dst (.slice B n cB)) w') : wpList Try.prog ops Q (o :: rest) a w :=
  wpList_plain hgd fun _ hK => by
    subst hn
    obtain ⟨i0, hi0, hz0, hs0, hb0⟩ := info_parts u64_info
    obtain ⟨v, w', hrun, h2, h3⟩ := run_clone_own (P := Try.prog) w 46 o.type 31 i0 Try.underlying46 hi0 hz0 hs0 hb0 A l c hr hlen
    obtain ⟨B, cB, rfl, hO, hb⟩ := OwnR.of_own h2
    unfold Oper.wp execOp
    simp only [ho, resolve, invoke, builtin, Sem.run_bind, Sem.run_pure, Result.andThen_ok, List.map_toArray, List.map_cons, List.map_nil, hs, hx, hrun]
    exact hK _ _ (h B cB w' hO hb h3)
theorem see_len {m : Nat} {T : List Re} {w s : List Nat} (h : See m T w s) : T.length ≤ m := by
  have := rise_len (m := m) (lo := 0) h.rise (fun e he => in_pos (List.all_eq_true.1 h.inn e he)) (by omega)
  omega
set_option maxRecDepth 100000 in
set_option maxHeartbeats 4000000 in
theorem stored_law (w : World) (A : Option Addr) (l : List Nat) (c : Nat) (A1 : Option Addr) (ls : List Lx) (c1 : Nat) (hr : Row w A l) (hlen : l.length ≤ 9223372036854775807) (hr1 : LRow w A1 ls) (hok : ∀ k, k < ls.length → LOK w (ls.getD k lx0)) (hlen1 : ls.length ≤ 9223372036854775807) :
    Calls Try.prog 5 #[.slice A l.length c, .slice A1 ls.length c1] w fun e w' => e = .returned (.bool true) ∧ Below w.heap.size w w' := by
  obtain ⟨n, hn⟩ : ∃ n, l.length = n := ⟨_, rfl⟩
  obtain ⟨N, hN⟩ : ∃ N, ls.length = N := ⟨_, rfl⟩
  have HN := Lib.hid hn
  have HL := Lib.hid hN
  have HR := Lib.hid hr
  have HR1 := Lib.hid hr1
  have HO := Lib.hid hok
  rw [hn] at hlen ⊢
  rw [hN] at hlen1 ⊢
  clear hr hr1 hok hn hN
  by_cases hb1 : 100 < n
  · go_enter Try.func5, Try.ntmps5
    go_wp2_with (fail)
    refine (alive_calls _).mono ?_
    rintro e w' ⟨rfl, hbb⟩
    replace hbb := Lib.hid hbb
    go_wp2_with (fail)
    go_ret
    exact ⟨rfl, hbb.out⟩
  by_cases hb2 : n = 0
  · subst hb2
    go_enter Try.func5, Try.ntmps5
    go_wp2_with (fail)
    refine (alive_calls _).mono ?_
    rintro e w' ⟨rfl, hbb⟩
    replace hbb := Lib.hid hbb
    go_wp2_with (fail)
    go_ret
    exact ⟨rfl, hbb.out⟩
  by_cases hb3 : 20 < N
  · go_enter Try.func5, Try.ntmps5
    go_wp2_with (fail)
    refine (alive_calls _).mono ?_
    rintro e w' ⟨rfl, hbb⟩
    replace hbb := Lib.hid hbb
    go_wp2_with (fail)
    go_ret
    exact ⟨rfl, hbb.out⟩
  have hn1 : n ≤ 100 := by omega
  have hn0 : 0 < n := by omega
  have hN20 : N ≤ 20 := by omega
  have q1 : ((n : Int) == 0) = false := by rw [beq_eq_false_iff_ne]; omega
  have q2 : decide ((100 : Int) < (n : Int)) = false := decide_eq_false (by omega)
  have q3 : decide ((20 : Int) < (N : Int)) = false := decide_eq_false (by omega)
  go_enter Try.func5, Try.ntmps5
  go_wp2_with (fail)
  refine (new_calls _).mono ?_
  rintro e w1 ⟨g, b, rfl, hg, hb, hA1, hB1⟩
  have HA1 := Lib.hid hA1
  have HB1 := Lib.hid hB1
  have HW1 := Lib.hid (show Row w1 A l from Row.of_cel (HR.out.to_cel.below hB1))
  have hsz1 := hB1.size
  clear hA1 hB1
  go_wp2_with (first
    | (at_builtin; refine wpList_ucl rfl (.const (.slice none 0 0)) (.tmp 35) rfl A l n c HN.out rfl rfl HW1.out (by rw [HN.out]; omega) ?_; intro R6 c6 w2 hO6 hR6 hb2; replace hO6 := Lib.hid hO6; replace hR6 := Lib.hid hR6; have HB2 := Lib.hid hb2; have HW2 := Lib.hid (show Row w2 A l from Row.of_cel (HW1.out.to_cel.below hb2)); clear hb2)
    | (at_builtin; refine wpList_ucl rfl (.const (.slice none 0 0)) (.tmp 37) rfl A l n c HN.out rfl rfl HW2.out (by rw [HN.out]; omega) ?_; intro R7 c7 w3 hO7 hR7 hb3'; replace hO7 := Lib.hid hO7; replace hR7 := Lib.hid hR7; have HB3 := Lib.hid hb3'; clear hb3')
    | fail)
  obtain ⟨g6, e6⟩ : ∃ g6, R6 = some ⟨g6, 0, none⟩ := by obtain ⟨g6, h, _⟩ := hO6.out.head (by have := hO6.out.2.1; omega); exact ⟨g6, h⟩
  obtain ⟨g7, e7⟩ : ∃ g7, R7 = some ⟨g7, 0, none⟩ := by obtain ⟨g7, h, _⟩ := hO7.out.head (by have := hO7.out.2.1; omega); exact ⟨g7, h⟩
  subst e6 e7
  have hST : Ss w w3 g b g6 g7 c6 c7 n [] l l := by
    have l6 := hO6.out.lt _ rfl
    have l7 := hR7.out _ rfl
    refine ⟨(HA1.out.below HB2.out).below HB3.out, hO6.out.keep fun ad e => HB3.out.block _ (hO6.out.lt ad e), hO7.out, (HB1.out.trans (HB2.out.mono HB1.out.size)).trans (HB3.out.mono (Nat.le_trans HB1.out.size HB2.out.size)), ?_⟩
    simp only at l6 l7
    omega
  have h6 : w.heap.size ≤ g6 := by have := hR6.out _ rfl; simp only at this; omega
  have h7 : w.heap.size ≤ g7 := by have := hR7.out _ rfl; have := HB2.out.size; simp only at *; omega
  have HST := Lib.hid hST
  have HSE : Hid (See n [] l l) := Lib.hid (by have := See.start l; rwa [HN.out] at this)
  clear q1 q2 q3 hST hO6 hO7 hR6 hR7 HA1 HB1 HB2 HB3 HW1 HW2 hsz1
  go_wp2_with (fail)
  go_loopw [8] (fun i wr => ∃ (k : Nat) (T : List Re) (W S : List Nat), i = .int .i64 k ∧ k ≤ N ∧ Hid (See n T W S) ∧ Hid (Ss w wr g b g6 g7 c6 c7 n T W S)) (fun i _ => N - (intOf i).toNat)
  case atStart => exact ⟨0, [], l, l, rfl, Nat.zero_le _, HSE, HST⟩
  case round =>
    obtain ⟨k, T, W, S, rfl, hk, hE, hS⟩ := hrel
    by_cases h1 : k < N
    · obtain ⟨b1, o1, rfl, hlb, hc⟩ := HR1.out (by rw [HL.out]; omega)
      have x0w := hc k (by rw [HL.out]; exact h1)
      have hst := HO.out k (by rw [HL.out]; exact h1)
      clear hc
      generalize ls.getD k lx0 = s at *
      obtain ⟨ka, L, kc⟩ := s
      simp only at x0w
      have HSTO := Lib.hid hst
      obtain ⟨M, hLM⟩ : ∃ M, L.length = M := ⟨_, rfl⟩
      have HLM := Lib.hid hLM
      have hMm : M ≤ 9223372036854775807 := by rw [← hLM]; exact hst.len
      rw [hLM] at x0w
      have X0 := Lib.hid x0w
      have x0 := (hS.out.on.cell (p := ⟨b1, o1 + k, none⟩) hlb).trans x0w
      clear hst hLM x0w
      by_cases hb4 : 100 < M
      · go_wp2_with (fail)
        refine (alive_calls _).mono ?_
        rintro e w' ⟨rfl, hbb⟩
        replace hbb := Lib.hid hbb
        go_wp2_with (fail)
        go_ret
        exact ⟨rfl, hS.out.on.trans (hbb.out.mono hS.out.on.size)⟩
      · have hM100 : M ≤ 100 := by omega
        go_wp2_with (fail)
        go_loopw [9, 10] (fun own kk wq => ∃ (k2 : Nat) (X : List Re) (S2 : List Nat) (R : Option Addr) (cr : Nat), own = .slice R k2 cr ∧ kk = .int .i64 k2 ∧ k2 ≤ M ∧ Hid (ownM n (L.take k2) = X) ∧ Hid (See n (putsT T X) W S2) ∧ Hid (Ss w wq g b g6 g7 c6 c7 n T W S2) ∧ Hid (MineR w wq R k2 cr X)) (fun _ kk _ => M - (intOf kk).toNat)
        case atStart => exact ⟨0, [], S, none, 0, rfl, rfl, Nat.zero_le _, rfl, hE, hS, Lib.hid (MineR.nil _ _)⟩
        case round =>
          obtain ⟨k2, X, S2, R, cr, rfl, rfl, hk2, hX, hE2, hS2, hO2⟩ := hrel
          have y0 := (hS2.out.on.cell (p := ⟨b1, o1 + k, none⟩) hlb).trans X0.out
          have hszq := hS2.out.on.size
          clear x0
          by_cases h2 : k2 < M
          · obtain ⟨b2, o2, hka, hlb2, hc2⟩ := HSTO.out.cel.re (by rw [HLM.out]; omega)
            simp only at hka
            subst hka
            obtain ⟨f1, f2⟩ := hc2 k2 (by rw [HLM.out]; exact h2)
            have e1 := (hS2.out.on.cell (p := ⟨b2, o2 + k2 * 2, none⟩) hlb2).trans f1
            have e2 := (hS2.out.on.cell (p := ⟨b2, o2 + k2 * 2 + 1, none⟩) hlb2).trans f2
            have hmore := ownM_more (m := n) (L := L) (k := k2) (by rw [HLM.out]; exact h2)
            rw [hX.out] at hmore
            clear hc2
            generalize L.getD k2 re0 = q at *
            obtain ⟨y, x⟩ := q
            simp only at e1 e2 f1 f2
            have F2 := Lib.hid f2
            clear f1 f2
            obtain ⟨a, han, hma, hmb, hmc, hmd⟩ := mod_letter y n hn0
            have hinm : inM n ⟨y, x⟩ = ⟨(a : Int), x⟩ := by unfold inM; rw [hmb]
            rw [hinm] at hmore
            have HMORE := Lib.hid hmore
            have hw2 : IntKind.i64.wrap (y.tmod (n : Int) + (n : Int)) = y.tmod (n : Int) + (n : Int) := by rw [IntKind.wrap_i64]; omega
            have hai : (a : Int) < (n : Int) := by omega
            have hni : ¬ ((n : Int) = 0) := by omega
            have hni2 : ¬ (n = 0) := by omega
            clear hmore hinm hmb hmc hmd
            obtain ⟨i0, hi0, hz0, hs0, hb0⟩ := info_parts redo_info
            have HI := Lib.hid hi0
            have HZ := Lib.hid hz0
            have HSz := Lib.hid hs0
            have HB := Lib.hid hb0
            clear hi0 hz0 hs0 hb0
            go_upto_region 19 with (first | (at_builtin; refine wpList_append_r rfl (.tmp 78) (.tmp 89) 28 rfl 38 i0 _ 2 16 Try.underlying28 HI.out HZ.out HSz.out HB.out rfl R k2 cr (ev X) rfl (hO2.out.1.keep fun ad e => Below.heap_alloc _ _ _ (hO2.out.1.lt ad e)) ⟨wr.heap.size, 0, none⟩ 1 1 (ev [⟨(a : Int), x⟩]) rfl rfl (cells_re (heap_alloc_new _ _)) (ev_one _) (by decide) (by unfold maxLen; omega) (by omega) ?_; intro g2 c2 w2 hO3 hG3 hE3) | fail)
            obtain ⟨hM3, hb3'⟩ := MineR.step (w := w) (by simp; omega) hO2.out.2 (hS2.out.on.alloc hS2.out.on.size _) hO3 hG3 hE3 rfl
            have hba : Below wr.heap.size wr (wr.alloc (.cells #[.int .i64 (a : Int), .int .u64 (x : Int)] 38)) := (Below.refl _ _).alloc (Nat.le_refl _) _
            have hoa := hO2.out.1.keep (w' := wr.alloc (.cells #[.int .i64 (a : Int), .int .u64 (x : Int)] 38)) fun ad e => Below.heap_alloc _ _ _ (hO2.out.1.lt ad e)
            have hS3 := (hS2.out.below hba).row hoa hG3 hb3'
            have y3 := (hS3.on.cell (p := ⟨b1, o1 + k, none⟩) hlb).trans X0.out
            have e3 := (hS3.on.cell (p := ⟨b2, o2 + k2 * 2 + 1, none⟩) hlb2).trans F2.out
            obtain ⟨z0, z1⟩ := hS3.r7.spotW han
            have hS4 := hS3.set7 h7 a x
            have hM4 : MineR w (w2.setCell ⟨g7, a, none⟩ (.int .u64 (x : Int))) (some ⟨g2, 0, none⟩) (k2 + 1) c2 (X ++ [⟨(a : Int), x⟩]) := ⟨hM3.1.other _ (fun ad e => by obtain ⟨cur7, hg7⟩ := hS3.r7.blk; exact hM3.1.apart hg7 (by decide) ad e), hM3.2⟩
            have hE4 := hE2.out.put (e := ⟨(a : Int), x⟩) (decide_eq_true ⟨by simp only; omega, by simp only; omega⟩)
            rw [← puts_snoc] at hE4
            have ES := Lib.hid hS4
            have EM := Lib.hid hM4
            have EE : Hid (See n (putsT T (X ++ [⟨(a : Int), x⟩])) W (S2.set a x)) := Lib.hid (by have := hE4; simp only [Int.toNat_natCast] at this; exact this)
            clear hM3 hb3' hba hoa hS3 hS4 hM4 hE4 hO3 hG3 hE3 y0 e1 e2 hma hw2
            generalize S2.getD a 0 = oldw at *
            go_wp2_with (fail)
            go_roundw
            case rel => exact ⟨k2 + 1, X ++ [⟨(a : Int), x⟩], _, _, c2, rfl, by go_num, by omega, HMORE, EE, ES, EM⟩
            case measure => simp [intOf]; omega
          · obtain rfl : M = k2 := by omega
            have hXL : ownM n L = X := by have := hX.out; rwa [show M = L.length from HLM.out.symm, List.take_length] at this
            have hXl : X.length = M := by rw [← hXL, ownM_len, HLM.out]
            have hP := put_calls hS2.out.ah R X cr hO2.out.cel (by rw [← hXL]; exact ownM_rn hn0 (by omega) HSTO.out.rn) (by have := see_len hE.out; rw [hXl]; omega)
            rw [hXl, show putE X = 0 by unfold putE; rw [← hXL, ownM_pos hn0]; rfl, show putR T X = putsT T X by unfold putR; rw [← hXL, ownM_pos hn0]; rfl] at hP
            have HP := Lib.hid hP
            clear hP hXL hXl
            go_wp2_with (fail)
            refine HP.out.mono ?_
            rintro e w4 ⟨rfl, hA4, hG4⟩
            obtain ⟨T1, hT1⟩ : ∃ T1, putsT T X = T1 := ⟨_, rfl⟩
            have HS4 := Lib.hid (hS2.out.turn hG4 hA4 hb)
            rw [hT1] at HS4 hE2
            obtain ⟨m, hm⟩ : ∃ m, T1.length = m := ⟨_, rfl⟩
            have HM := Lib.hid hm
            have hmn : m ≤ 100 := by have := see_len hE2.out; omega
            have hLS := list_calls HS4.out.ah (by rw [hm]; omega)
            have HLS := Lib.hid hLS
            clear hA4 hG4 HP hS2 hO2 hX y0 hT1 hm hLS hE hS HSTO HLM
            go_wp2_with (fail)
            refine HLS.out.mono ?_
            rintro e w5 ⟨R9, c9, rfl, hM9, hb9⟩
            rw [HM.out] at hM9 ⊢
            have HS5 := Lib.hid (HS4.out.below hb9)
            have HM9 := Lib.hid (show MineR w w5 R9 m c9 T1 from hM9.from HS4.out.on.size)
            clear hM9 hb9 HLS HS4
            go_wp2_with (fail)
            go_loopw [13] (fun kk wq => ∃ (j : Nat) (U : List Re) (W2 : List Nat), kk = .int .i64 ((j : Int) - 1) ∧ j ≤ m + 1 ∧ Hid (Part n T1 (j - 1) U W2 S2) ∧ Hid (Ss w wq g b g6 g7 c6 c7 n U W2 S2) ∧ Hid (MineR w wq R9 m c9 T1)) (fun kk _ => m + 1 - (intOf kk + 1).toNat)
            case atStart => exact ⟨0, T1, W, by rfl, by omega, Lib.hid (Part.start hE2.out), HS5, HM9⟩
            case round =>
              obtain ⟨j, U, W2, rfl, hj, hPt, hS6, hM6⟩ := hrel
              by_cases hj1 : j < m + 1
              · by_cases hj0 : j = 0
                · subst hj0
                  have hS7 := hS6
                  have hM7 := hM6
                  have hP7 : Hid (Part n T1 0 U W2 S2) := hPt
                  go_upto_region 31 with (fail)
                  go_wp2_with (fail)
                  go_loopw [14] (fun i wq => ∃ a3 : Nat, i = .int .i64 a3 ∧ a3 ≤ n ∧ Hid (Below wr.heap.size wr wq)) (fun i _ => n - (intOf i).toNat)
                  case atStart => exact ⟨0, rfl, Nat.zero_le _, Lib.hid (Below.refl _ _)⟩
                  case round =>
                    obtain ⟨a3, rfl, ha3, hB3⟩ := hrel
                    have hS8 := Lib.hid (hS7.out.below hB3.out)
                    by_cases h3 : a3 < n
                    · obtain ⟨z0, z1⟩ := hS8.out.r6.spotW h3
                      obtain ⟨z2, z3⟩ := hS8.out.r7.spotW h3
                      have hld := load_calls (hS8.out.below (Below.refl _ _).drew).ah (a3 : Int) (W2.getD a3 0) (by omega) (by omega)
                      rw [hP7.out.see.see a3 h3] at hld
                      have hai3 : (a3 : Int) < (n : Int) := by omega
                      have Z0 := Lib.hid z0
                      have Z2 := Lib.hid z2
                      clear z0 z1 z2 z3
                      generalize W2.getD a3 0 = vw at *
                      generalize S2.getD a3 0 = vs2 at *
                      have HLD := Lib.hid hld
                      clear hld
                      go_wp2_with (fail)
                      have HLDD : Hid (∀ u, u = wr.drew → Calls Try.prog 15 #[.pointer (some ⟨g, 0, none⟩), .int .i64 (a3 : Nat), .int .u64 (vw : Int)] u fun e w2 => e = .returned (.int .u64 (vs2 : Int)) ∧ u = w2) := Lib.hid (fun u h => by subst h; exact HLD.out)
                      clear HLD
                      refine wp_region_phase (T := (fun _ _ => True)) (Vals [.pointer (some ⟨g, 0, none⟩), .int .i64 (a3 : Nat), .slice (some ⟨g6, 0, none⟩) n c6, .int .i64 (a3 : Nat), .pointer (some ⟨g6, a3, none⟩), .int .u64 (vw : Int), .int .u64 (vs2 : Int), .slice (some ⟨g7, 0, none⟩) n c7, .int .i64 (a3 : Nat), .pointer (some ⟨g7, a3, none⟩), .int .u64 (vs2 : Int), .bool false]) (fun _ u => u = wr.drew) (by kernel_rfl) (by kernel_rfl) (by kernel_rfl) (fun i v w w2 h _ => h) rfl ?steps ?fin
                      case steps =>
                        refine ⟨?s0, ?s1, ?s2, ?s3, ?s4, ?s5, ?s6, ?s7, ?s8, ?s9, ?s10, ?s11, trivial⟩
                        case s0 =>
                          intro Lb ac u hA hp hl hd
                          have q0 := ev_of (show ac.eval (.tmp 5) = .pointer (some ⟨g, 0, none⟩) from hA.eval 5 rfl)
                          refine ⟨rfl, StepOK.run (.pointer (some ⟨g, 0, none⟩)) ?_ ⟨Vals.mk rfl, hp⟩ trivial⟩
                          unfold execOp
                          simp [go_sem, q0]
                        case s1 =>
                          intro Lb ac u hA hp hl hd
                          have q0 := ev_of (show ac.eval (.tmp 14) = .int .i64 (a3 : Nat) from hA.eval 14 rfl)
                          refine ⟨rfl, StepOK.run (.int .i64 (a3 : Nat)) ?_ ⟨Vals.mk rfl, hp⟩ trivial⟩
                          unfold execOp
                          simp [go_sem, q0]
                        case s2 =>
                          intro Lb ac u hA hp hl hd
                          have q0 := ev_of (show ac.eval (.tmp 6) = .slice (some ⟨g6, 0, none⟩) n c6 from hA.eval 6 rfl)
                          refine ⟨rfl, StepOK.run (.slice (some ⟨g6, 0, none⟩) n c6) ?_ ⟨Vals.mk rfl, hp⟩ trivial⟩
                          unfold execOp
                          simp [go_sem, q0]
                        case s3 =>
                          intro Lb ac u hA hp hl hd
                          have q0 := ev_of (show ac.eval (.tmp 14) = .int .i64 (a3 : Nat) from hA.eval 14 rfl)
                          refine ⟨rfl, StepOK.run (.int .i64 (a3 : Nat)) ?_ ⟨Vals.mk rfl, hp⟩ trivial⟩
                          unfold execOp
                          simp [go_sem, q0]
                        case s4 =>
                          intro Lb ac u hA hp hl hd
                          have r0 := depP hd 2 165 rfl rfl
                          have q0 := ev_of (show ac.eval (.tmp 165) = .slice (some ⟨g6, 0, none⟩) n c6 from r0)
                          have r1 := depP hd 3 166 rfl rfl
                          have q1 := ev_of (show ac.eval (.tmp 166) = .int .i64 (a3 : Nat) from r1)
                          refine ⟨rfl, StepOK.run (.pointer (some ⟨g6, a3, none⟩)) ?_ ⟨Vals.mk rfl, hp⟩ trivial⟩
                          unfold execOp
                          simp [go_sem, q0, q1, hai3]
                        case s5 =>
                          intro Lb ac u hA hp hl hd
                          have r0 := depP hd 4 167 rfl rfl
                          have q0 := ev_of (show ac.eval (.tmp 167) = .pointer (some ⟨g6, a3, none⟩) from r0)
                          have y0 := (by have h9 : u = wr.drew := hp; rw [h9]; exact Z0.out : u.cell? ⟨g6, a3, none⟩ = some (.int .u64 (vw : Int)))
                          refine ⟨rfl, StepOK.run (.int .u64 (vw : Int)) ?_ ⟨Vals.mk rfl, hp⟩ trivial⟩
                          unfold execOp
                          simp [go_sem, q0, y0]
                        case s6 =>
                          intro Lb ac u hA hp hl hd
                          have r0 := depP hd 0 163 rfl rfl
                          have q0 := ev_of (show ac.eval (.tmp 163) = .pointer (some ⟨g, 0, none⟩) from r0)
                          have r1 := depP hd 1 164 rfl rfl
                          have q1 := ev_of (show ac.eval (.tmp 164) = .int .i64 (a3 : Nat) from r1)
                          have r2 := depP hd 5 168 rfl rfl
                          have q2 := ev_of (show ac.eval (.tmp 168) = .int .u64 (vw : Int) from r2)
                          refine ⟨rfl, StepOK.call 15 #[.pointer (some ⟨g, 0, none⟩), .int .i64 (a3 : Nat), .int .u64 (vw : Int)] ?_ ((HLDD.out u hp).mono ?_)⟩
                          · unfold execOp
                            simp [go_sem, q0, q1, q2]
                          · rintro e w2 ⟨rfl, rfl⟩
                            exact ⟨_, rfl, ⟨Vals.mk rfl, hp⟩, trivial⟩
                        case s7 =>
                          intro Lb ac u hA hp hl hd
                          have q0 := ev_of (show ac.eval (.tmp 7) = .slice (some ⟨g7, 0, none⟩) n c7 from hA.eval 7 rfl)
                          refine ⟨rfl, StepOK.run (.slice (some ⟨g7, 0, none⟩) n c7) ?_ ⟨Vals.mk rfl, hp⟩ trivial⟩
                          unfold execOp
                          simp [go_sem, q0]
                        case s8 =>
                          intro Lb ac u hA hp hl hd
                          have q0 := ev_of (show ac.eval (.tmp 14) = .int .i64 (a3 : Nat) from hA.eval 14 rfl)
                          refine ⟨rfl, StepOK.run (.int .i64 (a3 : Nat)) ?_ ⟨Vals.mk rfl, hp⟩ trivial⟩
                          unfold execOp
                          simp [go_sem, q0]
                        case s9 =>
                          intro Lb ac u hA hp hl hd
                          have r0 := depP hd 7 170 rfl rfl
                          have q0 := ev_of (show ac.eval (.tmp 170) = .slice (some ⟨g7, 0, none⟩) n c7 from r0)
                          have r1 := depP hd 8 171 rfl rfl
                          have q1 := ev_of (show ac.eval (.tmp 171) = .int .i64 (a3 : Nat) from r1)
                          refine ⟨rfl, StepOK.run (.pointer (some ⟨g7, a3, none⟩)) ?_ ⟨Vals.mk rfl, hp⟩ trivial⟩
                          unfold execOp
                          simp [go_sem, q0, q1, hai3]
                        case s10 =>
                          intro Lb ac u hA hp hl hd
                          have r0 := depP hd 9 172 rfl rfl
                          have q0 := ev_of (show ac.eval (.tmp 172) = .pointer (some ⟨g7, a3, none⟩) from r0)
                          have y0 := (by have h9 : u = wr.drew := hp; rw [h9]; exact Z2.out : u.cell? ⟨g7, a3, none⟩ = some (.int .u64 (vs2 : Int)))
                          refine ⟨rfl, StepOK.run (.int .u64 (vs2 : Int)) ?_ ⟨Vals.mk rfl, hp⟩ trivial⟩
                          unfold execOp
                          simp [go_sem, q0, y0]
                        case s11 =>
                          intro Lb ac u hA hp hl hd
                          have r0 := depP hd 6 169 rfl rfl
                          have q0 := ev_of (show ac.eval (.tmp 169) = .int .u64 (vs2 : Int) from r0)
                          have r1 := depP hd 10 173 rfl rfl
                          have q1 := ev_of (show ac.eval (.tmp 173) = .int .u64 (vs2 : Int) from r1)
                          refine ⟨rfl, StepOK.run (.bool false) ?_ ⟨Vals.mk rfl, hp⟩ trivial⟩
                          unfold execOp
                          simp [go_sem, q0, q1]
                      case fin =>
                        intro Lb vs u hp hv hall
                        have e0 : vs 0 = .pointer (some ⟨g, 0, none⟩) := hv 0 (by decide)
                        have e1 : vs 1 = .int .i64 (a3 : Nat) := hv 1 (by decide)
                        have e2 : vs 2 = .slice (some ⟨g6, 0, none⟩) n c6 := hv 2 (by decide)
                        have e3 : vs 3 = .int .i64 (a3 : Nat) := hv 3 (by decide)
                        have e4 : vs 4 = .pointer (some ⟨g6, a3, none⟩) := hv 4 (by decide)
                        have e5 : vs 5 = .int .u64 (vw : Int) := hv 5 (by decide)
                        have e6 : vs 6 = .int .u64 (vs2 : Int) := hv 6 (by decide)
                        have e7 : vs 7 = .slice (some ⟨g7, 0, none⟩) n c7 := hv 7 (by decide)
                        have e8 : vs 8 = .int .i64 (a3 : Nat) := hv 8 (by decide)
                        have e9 : vs 9 = .pointer (some ⟨g7, a3, none⟩) := hv 9 (by decide)
                        have e10 : vs 10 = .int .u64 (vs2 : Int) := hv 10 (by decide)
                        have e11 : vs 11 = .bool false := hv 11 (by decide)
                        simp only [putsFrom, Act.put, List.setIfInBounds_toArray, List.set_cons_succ, List.set_cons_zero, Nat.reduceAdd, e0, e1, e2, e3, e4, e5, e6, e7, e8, e9, e10, e11]
                        clear e0 e1 e2 e3 e4 e5 e6 e7 e8 e9 e10 e11 hv
                        have h9 : u = wr.drew := hp
                        subst h9
                        have hB4 := Lib.hid hB3.out.drew
                        clear hp hall HLDD Z0 Z2
                        go_wp2_with (fail)
                        go_roundw
                        case rel => exact ⟨a3 + 1, by go_num, by omega, hB4⟩
                        case measure => simp [intOf]; omega
                    · have h64 : a3 = n := by omega
                      subst h64
                      have hM8 := Lib.hid (hM7.out.on hB3.out)
                      go_wp2_with (fail)
                      go_roundw
                      case rel => exact ⟨1, U, W2, by go_num, by omega, hP7, hS8, hM8⟩
                      case measure => simp [intOf] <;> omega
                · obtain ⟨kj, rfl⟩ : ∃ kj, j = kj + 1 := ⟨j - 1, by omega⟩
                  have hPk : Hid (Part n T1 kj U W2 S2) := hPt
                  have hkm : kj < m := by omega
                  have ek : ((kj + 1 : Nat) : Int) - 1 = (kj : Int) := by omega
                  rw [ek]
                  obtain ⟨bl, ol, hR9, hlbl, hcl⟩ := hM6.out.cel.re (by rw [HM.out]; omega)
                  subst hR9
                  obtain ⟨e1, e2⟩ := hcl kj (by rw [HM.out]; exact hkm)
                  obtain ⟨q0, q1, q2⟩ := hPk.out.at (by rw [HM.out]; exact hkm)
                  have hskip := Lib.hid hPk.out.skip
                  have hstore := Lib.hid (hPk.out.store (by rw [HM.out]; exact hkm))
                  clear hcl hPt
                  generalize T1.getD kj re0 = q at *
                  obtain ⟨p, x⟩ := q
                  simp only at e1 e2 q0 q1 q2
                  obtain ⟨a, rfl⟩ := Int.eq_ofNat_of_zero_le q0
                  have han : a < n := by omega
                  have d1 : ¬ ((a : Int) < 0) := by omega
                  have d2 : ¬ ((n : Int) ≤ (a : Int)) := by omega
                  have d3 : (0 : Int) ≤ (kj : Int) := by omega
                  clear q0
                  by_cases h32 : kj % 3 = 2
                  · have d4 : (kj : Int) % 3 = 2 := by omega
                    have d5 : (kj : Int).tmod 3 = 2 := by rw [Int.tmod_eq_emod_of_nonneg (by omega)]; exact d4
                    go_wp2_with (fail)
                    go_roundw
                    case rel => exact ⟨kj + 2, U, W2, by go_num, by omega, hskip, hS6, hM6⟩
                    case measure => simp [intOf] <;> omega
                  · have d4 : ¬ ((kj : Int) % 3 = 2) := by omega
                    have d5 : ¬ ((kj : Int).tmod 3 = 2) := by rw [Int.tmod_eq_emod_of_nonneg (by omega)]; exact d4
                    obtain ⟨z0, z1⟩ := hS6.out.r6.spotW han
                    generalize W2.getD a 0 = oldw at *
                    go_wp2_with (fail)
                    go_still_tail 12, (by kernel_rfl)
                    change wpList _ _ _ _ _ wr.drew
                    go_upto_region 29 with (fail)
                    obtain ⟨V3, hV3⟩ : ∃ V3, V3 = (wr.setCell ⟨g6, a, none⟩ (.int .u64 (x : Int))).drew := ⟨_, rfl⟩
                    have hS7a : Ss w V3 g b g6 g7 c6 c7 n U (W2.set a x) S2 := by rw [hV3]; exact (hS6.out.set6 h6 a x).below (Below.refl _ _).drew
                    have hM7a : MineR w V3 (some ⟨bl, ol, none⟩) m c9 T1 := by
                      rw [hV3]
                      obtain ⟨cur6, hg6⟩ := hS6.out.r6.blk
                      have hoo : OwnR (wr.setCell ⟨g6, a, none⟩ (.int .u64 (x : Int))) 38 2 (some ⟨bl, ol, none⟩) m c9 (ev T1) := hM6.out.1.other _ (fun ad e => hM6.out.1.apart hg6 (by decide) ad e)
                      exact ⟨hoo.keep fun ad e => rfl, hM6.out.2⟩
                    rw [← hV3]
                    have f1 := (hM7a.cel.re (by rw [HM.out]; omega))
                    obtain ⟨bl2, ol2, hR92, _, hcl2⟩ := f1
                    injection hR92 with hR92
                    injection hR92 with i1 i2
                    subst i1 i2
                    obtain ⟨e3, _⟩ := hcl2 kj (by rw [HM.out]; exact hkm)
                    have hge : (T1.getD kj re0).pos = (a : Int) := by
                      have hz := hM6.out.cel.re (by rw [HM.out]; omega)
                      obtain ⟨b8, o8, e8, _, h8⟩ := hz
                      injection e8 with e8
                      injection e8 with i1 i2
                      subst i1 i2
                      have h9 := (h8 kj (by rw [HM.out]; exact hkm)).1
                      rw [e1] at h9
                      injection h9 with h9
                      injection h9 with _ h9
                      exact h9.symm
                    rw [hge] at e3
                    have hD := done_calls hS7a.ah (a : Int) (by omega) (by omega)
                    rw [show doneE U (a : Int) = 0 by unfold doneE; rw [q2]; rfl] at hD
                    have HD := Lib.hid hD
                    have HS7a := Lib.hid hS7a
                    have HM7a := Lib.hid hM7a
                    clear hV3 hS7a hM7a hcl2 hge hD z0 z1 e1 e2 hS6 hM6
                    go_wp2_with (fail)
                    refine HD.out.mono ?_
                    rintro e w8 ⟨rfl, hA8, hG8⟩
                    have hS7 := Lib.hid (HS7a.out.turn hG8 hA8 hb)
                    have hM7 := Lib.hid (HM7a.out.turned HS7a.out.ah.map hG8)
                    have hP7 : Hid (Part n T1 (kj + 1) (delT U (a : Int)) (W2.set a x) S2) := Lib.hid (by have := hstore.out; simp only [Int.toNat_natCast] at this; exact this)
                    clear hA8 hG8 HD HS7a HM7a hstore hskip
                    go_upto_region 31 with (fail)
                    go_wp2_with (fail)
                    go_loopw [14] (fun i wq => ∃ a3 : Nat, i = .int .i64 a3 ∧ a3 ≤ n ∧ Hid (Below w8.heap.size w8 wq)) (fun i _ => n - (intOf i).toNat)
                    case atStart => exact ⟨0, rfl, Nat.zero_le _, Lib.hid (Below.refl _ _)⟩
                    case round =>
                      obtain ⟨a3, rfl, ha3, hB3⟩ := hrel
                      have hS8 := Lib.hid (hS7.out.below hB3.out)
                      by_cases h3 : a3 < n
                      · obtain ⟨z0, z1⟩ := hS8.out.r6.spotW h3
                        obtain ⟨z2, z3⟩ := hS8.out.r7.spotW h3
                        have hld := load_calls (hS8.out.below (Below.refl _ _).drew).ah (a3 : Int) ((W2.set a x).getD a3 0) (by omega) (by omega)
                        rw [hP7.out.see.see a3 h3] at hld
                        have hai3 : (a3 : Int) < (n : Int) := by omega
                        have Z0 := Lib.hid z0
                        have Z2 := Lib.hid z2
                        clear z0 z1 z2 z3
                        generalize (W2.set a x).getD a3 0 = vw at *
                        generalize S2.getD a3 0 = vs2 at *
                        have HLD := Lib.hid hld
                        clear hld
                        go_wp2_with (fail)
                        have HLDD : Hid (∀ u, u = wr.drew → Calls Try.prog 15 #[.pointer (some ⟨g, 0, none⟩), .int .i64 (a3 : Nat), .int .u64 (vw : Int)] u fun e w2 => e = .returned (.int .u64 (vs2 : Int)) ∧ u = w2) := Lib.hid (fun u h => by subst h; exact HLD.out)
                        clear HLD
                        refine wp_region_phase (T := (fun _ _ => True)) (Vals [.pointer (some ⟨g, 0, none⟩), .int .i64 (a3 : Nat), .slice (some ⟨g6, 0, none⟩) n c6, .int .i64 (a3 : Nat), .pointer (some ⟨g6, a3, none⟩), .int .u64 (vw : Int), .int .u64 (vs2 : Int), .slice (some ⟨g7, 0, none⟩) n c7, .int .i64 (a3 : Nat), .pointer (some ⟨g7, a3, none⟩), .int .u64 (vs2 : Int), .bool false]) (fun _ u => u = wr.drew) (by kernel_rfl) (by kernel_rfl) (by kernel_rfl) (fun i v w w2 h _ => h) rfl ?steps ?fin
                        case steps =>
                          refine ⟨?s0, ?s1, ?s2, ?s3, ?s4, ?s5, ?s6, ?s7, ?s8, ?s9, ?s10, ?s11, trivial⟩
                          case s0 =>
                            intro Lb ac u hA hp hl hd
                            have q0 := ev_of (show ac.eval (.tmp 5) = .pointer (some ⟨g, 0, none⟩) from hA.eval 5 rfl)
                            refine ⟨rfl, StepOK.run (.pointer (some ⟨g, 0, none⟩)) ?_ ⟨Vals.mk rfl, hp⟩ trivial⟩
                            unfold execOp
                            simp [go_sem, q0]
                          case s1 =>
                            intro Lb ac u hA hp hl hd
                            have q0 := ev_of (show ac.eval (.tmp 14) = .int .i64 (a3 : Nat) from hA.eval 14 rfl)
                            refine ⟨rfl, StepOK.run (.int .i64 (a3 : Nat)) ?_ ⟨Vals.mk rfl, hp⟩ trivial⟩
                            unfold execOp
                            simp [go_sem, q0]
                          case s2 =>
                            intro Lb ac u hA hp hl hd
                            have q0 := ev_of (show ac.eval (.tmp 6) = .slice (some ⟨g6, 0, none⟩) n c6 from hA.eval 6 rfl)
                            refine ⟨rfl, StepOK.run (.slice (some ⟨g6, 0, none⟩) n c6) ?_ ⟨Vals.mk rfl, hp⟩ trivial⟩
                            unfold execOp
                            simp [go_sem, q0]
                          case s3 =>
                            intro Lb ac u hA hp hl hd
                            have q0 := ev_of (show ac.eval (.tmp 14) = .int .i64 (a3 : Nat) from hA.eval 14 rfl)
                            refine ⟨rfl, StepOK.run (.int .i64 (a3 : Nat)) ?_ ⟨Vals.mk rfl, hp⟩ trivial⟩
                            unfold execOp
                            simp [go_sem, q0]
                          case s4 =>
                            intro Lb ac u hA hp hl hd
                            have r0 := depP hd 2 165 rfl rfl
                            have q0 := ev_of (show ac.eval (.tmp 165) = .slice (some ⟨g6, 0, none⟩) n c6 from r0)
                            have r1 := depP hd 3 166 rfl rfl
                            have q1 := ev_of (show ac.eval (.tmp 166) = .int .i64 (a3 : Nat) from r1)
                            refine ⟨rfl, StepOK.run (.pointer (some ⟨g6, a3, none⟩)) ?_ ⟨Vals.mk rfl, hp⟩ trivial⟩
                            unfold execOp
                            simp [go_sem, q0, q1, hai3]
                          case s5 =>
                            intro Lb ac u hA hp hl hd
                            have r0 := depP hd 4 167 rfl rfl
                            have q0 := ev_of (show ac.eval (.tmp 167) = .pointer (some ⟨g6, a3, none⟩) from r0)
                            have y0 := (by have h9 : u = wr.drew := hp; rw [h9]; exact Z0.out : u.cell? ⟨g6, a3, none⟩ = some (.int .u64 (vw : Int)))
                            refine ⟨rfl, StepOK.run (.int .u64 (vw : Int)) ?_ ⟨Vals.mk rfl, hp⟩ trivial⟩
                            unfold execOp
                            simp [go_sem, q0, y0]
                          case s6 =>
                            intro Lb ac u hA hp hl hd
                            have r0 := depP hd 0 163 rfl rfl
                            have q0 := ev_of (show ac.eval (.tmp 163) = .pointer (some ⟨g, 0, none⟩) from r0)
                            have r1 := depP hd 1 164 rfl rfl
                            have q1 := ev_of (show ac.eval (.tmp 164) = .int .i64 (a3 : Nat) from r1)
                            have r2 := depP hd 5 168 rfl rfl
                            have q2 := ev_of (show ac.eval (.tmp 168) = .int .u64 (vw : Int) from r2)
                            refine ⟨rfl, StepOK.call 15 #[.pointer (some ⟨g, 0, none⟩), .int .i64 (a3 : Nat), .int .u64 (vw : Int)] ?_ ((HLDD.out u hp).mono ?_)⟩
                            · unfold execOp
                              simp [go_sem, q0, q1, q2]
                            · rintro e w2 ⟨rfl, rfl⟩
                              exact ⟨_, rfl, ⟨Vals.mk rfl, hp⟩, trivial⟩
                          case s7 =>
                            intro Lb ac u hA hp hl hd
                            have q0 := ev_of (show ac.eval (.tmp 7) = .slice (some ⟨g7, 0, none⟩) n c7 from hA.eval 7 rfl)
                            refine ⟨rfl, StepOK.run (.slice (some ⟨g7, 0, none⟩) n c7) ?_ ⟨Vals.mk rfl, hp⟩ trivial⟩
                            unfold execOp
                            simp [go_sem, q0]
                          case s8 =>
                            intro Lb ac u hA hp hl hd
                            have q0 := ev_of (show ac.eval (.tmp 14) = .int .i64 (a3 : Nat) from hA.eval 14 rfl)
                            refine ⟨rfl, StepOK.run (.int .i64 (a3 : Nat)) ?_ ⟨Vals.mk rfl, hp⟩ trivial⟩
                            unfold execOp
                            simp [go_sem, q0]
                          case s9 =>
                            intro Lb ac u hA hp hl hd
                            have r0 := depP hd 7 170 rfl rfl
                            have q0 := ev_of (show ac.eval (.tmp 170) = .slice (some ⟨g7, 0, none⟩) n c7 from r0)
                            have r1 := depP hd 8 171 rfl rfl
                            have q1 := ev_of (show ac.eval (.tmp 171) = .int .i64 (a3 : Nat) from r1)
                            refine ⟨rfl, StepOK.run (.pointer (some ⟨g7, a3, none⟩)) ?_ ⟨Vals.mk rfl, hp⟩ trivial⟩
                            unfold execOp
                            simp [go_sem, q0, q1, hai3]
                          case s10 =>
                            intro Lb ac u hA hp hl hd
                            have r0 := depP hd 9 172 rfl rfl
                            have q0 := ev_of (show ac.eval (.tmp 172) = .pointer (some ⟨g7, a3, none⟩) from r0)
                            have y0 := (by have h9 : u = wr.drew := hp; rw [h9]; exact Z2.out : u.cell? ⟨g7, a3, none⟩ = some (.int .u64 (vs2 : Int)))
                            refine ⟨rfl, StepOK.run (.int .u64 (vs2 : Int)) ?_ ⟨Vals.mk rfl, hp⟩ trivial⟩
                            unfold execOp
                            simp [go_sem, q0, y0]
                          case s11 =>
                            intro Lb ac u hA hp hl hd
                            have r0 := depP hd 6 169 rfl rfl
                            have q0 := ev_of (show ac.eval (.tmp 169) = .int .u64 (vs2 : Int) from r0)
                            have r1 := depP hd 10 173 rfl rfl
                            have q1 := ev_of (show ac.eval (.tmp 173) = .int .u64 (vs2 : Int) from r1)
                            refine ⟨rfl, StepOK.run (.bool false) ?_ ⟨Vals.mk rfl, hp⟩ trivial⟩
                            unfold execOp
                            simp [go_sem, q0, q1]
                        case fin =>
                          intro Lb vs u hp hv hall
                          have e0 : vs 0 = .pointer (some ⟨g, 0, none⟩) := hv 0 (by decide)
                          have e1 : vs 1 = .int .i64 (a3 : Nat) := hv 1 (by decide)
                          have e2 : vs 2 = .slice (some ⟨g6, 0, none⟩) n c6 := hv 2 (by decide)
                          have e3 : vs 3 = .int .i64 (a3 : Nat) := hv 3 (by decide)
                          have e4 : vs 4 = .pointer (some ⟨g6, a3, none⟩) := hv 4 (by decide)
                          have e5 : vs 5 = .int .u64 (vw : Int) := hv 5 (by decide)
                          have e6 : vs 6 = .int .u64 (vs2 : Int) := hv 6 (by decide)
                          have e7 : vs 7 = .slice (some ⟨g7, 0, none⟩) n c7 := hv 7 (by decide)
                          have e8 : vs 8 = .int .i64 (a3 : Nat) := hv 8 (by decide)
                          have e9 : vs 9 = .pointer (some ⟨g7, a3, none⟩) := hv 9 (by decide)
                          have e10 : vs 10 = .int .u64 (vs2 : Int) := hv 10 (by decide)
                          have e11 : vs 11 = .bool false := hv 11 (by decide)
                          simp only [putsFrom, Act.put, List.setIfInBounds_toArray, List.set_cons_succ, List.set_cons_zero, Nat.reduceAdd, e0, e1, e2, e3, e4, e5, e6, e7, e8, e9, e10, e11]
                          clear e0 e1 e2 e3 e4 e5 e6 e7 e8 e9 e10 e11 hv
                          have h9 : u = wr.drew := hp
                          subst h9
                          have hB4 := Lib.hid hB3.out.drew
                          clear hp hall HLDD Z0 Z2
                          go_wp2_with (fail)
                          go_roundw
                          case rel => exact ⟨a3 + 1, by go_num, by omega, hB4⟩
                          case measure => simp [intOf]; omega
                      · have h64 : a3 = n := by omega
                        subst h64
                        have hM8 := Lib.hid (hM7.out.on hB3.out)
                        go_wp2_with (fail)
                        go_roundw
                        case rel => exact ⟨kj + 2, delT U (a : Int), W2.set a x, by go_num, by omega, hP7, hS8, hM8⟩
                        case measure => simp [intOf] <;> omega
              · obtain rfl : j = m + 1 := by omega
                have hEn := Lib.hid hPt.out.see
                go_wp2_with (fail)
                go_roundw
                case rel => exact ⟨k + 1, U, W2, S2, by go_num, by omega, hEn, hS6⟩
                case measure => simp [intOf] <;> omega
    · obtain rfl : N = k := by omega
      obtain ⟨m, hm⟩ : ∃ m, T.length = m := ⟨_, rfl⟩
      have HM := Lib.hid hm
      have hmn : m ≤ 100 := by have := see_len hE.out; omega
      have hLS := list_calls hS.out.ah (by rw [hm]; omega)
      have HLS := Lib.hid hLS
      clear hm hLS
      go_wp2_with (fail)
      refine HLS.out.mono ?_
      rintro e w5 ⟨R9, c9, rfl, hM9, hb9⟩
      rw [HM.out] at hM9 ⊢
      have HS5 := Lib.hid (hS.out.below hb9)
      have HM9 := Lib.hid (show MineR w w5 R9 m c9 T from hM9.from hS.out.on.size)
      have HRS := Lib.hid hE.out.rise
      clear hM9 hb9 HLS hS
      go_wp2_with (fail)
      go_loopw [16] (fun i wq => ∃ (k3 : Nat) (W2 : List Nat), i = .int .i64 k3 ∧ k3 ≤ m ∧ Hid (appL W (T.take k3) = W2) ∧ Hid (Ss w wq g b g6 g7 c6 c7 n T W2 S) ∧ Hid (MineR w wq R9 m c9 T)) (fun i _ => m - (intOf i).toNat)
      case atStart => exact ⟨0, W, rfl, Nat.zero_le _, rfl, HS5, HM9⟩
      case round =>
        obtain ⟨k3, W2, rfl, hk3, hW2, hS6, hM6⟩ := hrel
        by_cases h3 : k3 < m
        · obtain ⟨bl, ol, hR9, hlbl, hcl⟩ := hM6.out.cel.re (by rw [HM.out]; omega)
          subst hR9
          obtain ⟨e1, e2⟩ := hcl k3 (by rw [HM.out]; exact h3)
          obtain ⟨q0, q1⟩ := in_pos (List.all_eq_true.1 hE.out.inn _ (getD_mem (k := k3) (by rw [HM.out]; exact h3)))
          have hnx := take_more (L := T) (k := k3) (by rw [HM.out]; exact h3)
          have hnw : appL W (T.take (k3 + 1)) = W2.set (T.getD k3 re0).pos.toNat (T.getD k3 re0).word := by rw [hnx, app_snoc, hW2.out]
          clear hcl hnx
          generalize T.getD k3 re0 = q at *
          obtain ⟨p, x⟩ := q
          simp only at e1 e2 q0 q1 hnw
          obtain ⟨a, rfl⟩ := Int.eq_ofNat_of_zero_le q0
          rw [Int.toNat_natCast] at hnw
          have HNW := Lib.hid hnw
          have han : a < n := by omega
          have d1 : ¬ ((a : Int) < 0) := by omega
          have d2 : ¬ ((n : Int) ≤ (a : Int)) := by omega
          clear q0 hnw
          obtain ⟨z0, z1⟩ := hS6.out.r6.spotW han
          generalize W2.getD a 0 = oldw at *
          have hS7 := Lib.hid ((hS6.out.set6 h6 a x).below (Below.refl _ _).drew)
          have hM7 : Hid (MineR w (wr.setCell ⟨g6, a, none⟩ (.int .u64 (x : Int))).drew (some ⟨bl, ol, none⟩) m c9 T) := Lib.hid (by
            obtain ⟨cur6, hg6⟩ := hS6.out.r6.blk
            have hoo : OwnR (wr.setCell ⟨g6, a, none⟩ (.int .u64 (x : Int))) 38 2 (some ⟨bl, ol, none⟩) m c9 (ev T) := hM6.out.1.other _ (fun ad e => hM6.out.1.apart hg6 (by decide) ad e)
            exact ⟨hoo.keep fun ad e => rfl, hM6.out.2⟩)
          go_wp2_with (fail)
          go_still_tail 12, (by kernel_rfl)
          change wpList _ _ _ _ _ wr.drew
          go_wp2_with (fail)
          go_roundw
          case rel => exact ⟨k3 + 1, _, by go_num, by omega, HNW, hS7, hM7⟩
          case measure => simp [intOf] <;> omega
        · obtain rfl : m = k3 := by omega
          have hWS : W2 = S := by have := hW2.out; rw [show m = T.length from HM.out.symm, List.take_length, hE.out.done] at this; exact this.symm
          subst hWS
          go_wp2_with (fail)
          go_loopw [17] (fun i wq => ∃ a3 : Nat, i = .int .i64 a3 ∧ a3 ≤ n ∧ Hid (Below wr.heap.size wr wq)) (fun i _ => n - (intOf i).toNat)
          case atStart => exact ⟨0, rfl, Nat.zero_le _, Lib.hid (Below.refl _ _)⟩
          case round =>
            obtain ⟨a3, rfl, ha3, hB3⟩ := hrel
            have hS8 := Lib.hid (hS6.out.below hB3.out)
            by_cases h4 : a3 < n
            · obtain ⟨z0, z1⟩ := hS8.out.r6.spotW h4
              obtain ⟨z2, z3⟩ := hS8.out.r7.spotW h4
              have hai3 : (a3 : Int) < (n : Int) := by omega
              clear z1 z3
              generalize W2.getD a3 0 = vw at *
              have hB4 := fun q => Lib.hid (below_drewN hB3.out q)
              go_wp2_with (fail)
              go_quiet (fail)
              go_wp2_with (fail)
              go_roundw
              case rel => exact ⟨a3 + 1, by go_num, by omega, hB4 _⟩
              case measure => simp [intOf] <;> omega
            · have h64 : a3 = n := by omega
              subst h64
              go_wp2_with (fail)
              refine (alive_calls _).mono ?_
              rintro e w' ⟨rfl, hbb⟩
              replace hbb := Lib.hid hbb
              go_wp2_with (fail)
              go_ret
              exact ⟨rfl, hS8.out.on.trans (hbb.out.mono hS8.out.on.size)⟩
end Go.Proofs.Ytphjppnkackmmaa
