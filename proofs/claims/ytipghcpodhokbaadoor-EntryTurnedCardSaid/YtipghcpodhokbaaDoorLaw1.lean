/- Told, of the errors of entry; alive. -/
import Derived.Test.YtipghcpodhokbaaDoorSRef7
set_option linter.unusedSimpArgs false
set_option linter.unusedVariables false
namespace Go.Proofs.YtipghcpodhokbaaDoor
open Go.RowKit WordMath SumMath
theorem two_cells {w0 : World} {B : Nat} {x y : Value} {t : TypeId} (hw : w0.heap[B]? = some (.cells #[x, y] t (0, 0))) : w0.cell? ⟨B, 0, none⟩ = some x ∧ w0.cell? ⟨B, 1, none⟩ = some y :=
  ⟨cell_of_row w0 B 0 _ t (0, 0) hw, cell_of_row w0 B 1 _ t (0, 0) hw⟩
theorem told_none (w : World) : Calls Tryd.prog 25 #[.nilIface, .agg #[.int .i64 0, .int .i64 0]] w fun e w' => e = .returned (.bool true) ∧ On w w' := by
  go_enter Tryd.func25, Tryd.ntmps25
  go_wp2
  go_ret
  exact ⟨rfl, on_alloc _ _⟩
set_option maxRecDepth 100000 in
set_option maxHeartbeats 1000000 in
theorem told_at (k n : Int) (s : ByteArray) (w : World) (hn : (n == 0) = false) (hE : ErrAt w) : Calls Tryd.prog 25 #[misV k n s, .agg #[.int .i64 k, .int .i64 n]] w fun e w' => e = .returned (.bool true) ∧ On w w' := by
  have hon : On w ((w.alloc (.cells #[.int .i64 k, .int .i64 n] 54)).alloc (.cells #[.int .i64 0, .int .i64 0] 54)) := on_two _ _ _
  have h2 : ((w.alloc (.cells #[.int .i64 k, .int .i64 n] 54)).alloc (.cells #[.int .i64 0, .int .i64 0] 54)).heap[w.heap.size + 1]? = some (.cells #[.int .i64 0, .int .i64 0] 54) := by
    have := heap_alloc_new (w.alloc (.cells #[.int .i64 k, .int .i64 n] 54)) (.cells #[.int .i64 0, .int .i64 0] 54)
    rwa [World.size_alloc] at this
  have h1 : ((w.alloc (.cells #[.int .i64 k, .int .i64 n] 54)).alloc (.cells #[.int .i64 0, .int .i64 0] 54)).heap[w.heap.size]? = some (.cells #[.int .i64 k, .int .i64 n] 54) :=
    (Below.heap_alloc _ _ _ (by simp)).trans (heap_alloc_new w _)
  have hA := Lib.hid (as_MF k n s (.int .i64 0) (.int .i64 0) 54 (w.heap.size + 1) _ (hE.below hon) h2)
  have h1 := Lib.hid h1
  have hon := Lib.hid hon
  clear h2
  go_enter Tryd.func25, Tryd.ntmps25
  go_wp2_with (fail)
  refine hA.out.mono ?_
  clear hA
  rintro e w2 ⟨rfl, hb2, hm2⟩
  have h12 := (hb2.block w.heap.size (by omega)).trans h1.out
  obtain ⟨a0, a1⟩ := two_cells h12
  obtain ⟨m0, m1⟩ := two_cells hm2
  have l1 := lt_of_cells h12
  have l2 := lt_of_cells hm2
  have bw2 : On w w2 := Below.trans hon.out (hb2.mono (by omega))
  clear hb2 hm2 h12 h1 hon
  go_wp2_with (fail)
  refine (is_M k n s _).mono ?_
  rintro e w3 ⟨rfl, hb3⟩
  go_wp2_with (fail)
  go_ret
  exact ⟨rfl, bw2.trans hb3⟩
/-- Told, of what Decode tells, of what Read tells. -/
theorem told_slot (o : Option Int) (w : World) (ho : ∀ n, o = some n → (n == 0) = false) (hE : ErrAt w) : Calls Tryd.prog 25 #[errV o, .agg #[.int .i64 0, .int .i64 (o.getD 0)]] w fun e w' => e = .returned (.bool true) ∧ On w w' := by
  cases o with
  | none => exact told_none w
  | some n => exact told_at 0 n slotT w (ho n rfl) hE
theorem told_block (o : Option (Nat × Int)) (w : World) (ho : ∀ k n, o = some (k, n) → (n == 0) = false) (hE : ErrAt w) : Calls Tryd.prog 25 #[errD o, fltV o] w fun e w' => e = .returned (.bool true) ∧ On w w' := by
  cases o with
  | none => exact told_none w
  | some p =>
    obtain ⟨k, n⟩ := p
    exact told_at k n blockT w (ho k n rfl) hE
theorem decBad_ne {l : List Nat} {P I B n : Int} (h : decBad l P I B = some n) : (n == 0) = false := by
  unfold decBad at h
  split at h
  · injection h with h; subst h; rfl
  split at h
  · cases h
  · injection h with h; subst h; rfl
theorem badD_ne {l : List Nat} {P I B n : Int} {k : Nat} (h : badD l P I B = some (k, n)) : (n == 0) = false := by
  unfold badD at h
  split at h
  · injection h with h; injection h with _ h; subst h; rfl
  split at h
  · injection h with h; injection h with _ h; subst h; rfl
  split at h
  · injection h with h; injection h with _ h; subst h; rfl
  split at h
  · injection h with h; injection h with _ h; subst h; rfl
  · cases h
theorem guardS (x y : Operand) (q r : Slt) (w : World) : (eqGuard .eql 23 x y q.v r.v).run Tryd.prog w = .ok () w := run_eqGuard_agg w .eql _ x y _ _ (by kernel_rfl)
theorem binS (q r : Slt) (w : World) : (binOp .eql 23 q.v r.v).run Tryd.prog w = .ok (.bool (sameS q.I q.K q.S r.I r.K r.S)) w :=
  (run_eql_struct w 23 _ _).trans (by rw [eqS]; rfl)
theorem run_eqS {a : Act} {o : Oper} {u : World} {x y : Operand} {t : TypeId} (ho : o.op = .binOp .eql 23 x y t) (q r : Slt) (h1 : a.eval x = q.v) (h2 : a.eval y = r.v) {b : Bool} (hb : sameS q.I q.K q.S r.I r.K r.S = b) : (execOp a.eval o).run Tryd.prog u = .ok (.value (.bool b)) u := by
  have e1 := guardS x y q r u
  have e2 := binS q r u
  unfold execOp
  rw [ho]
  simp only [h1, h2, Sem.run_bind, e1, e2, hb, Result.andThen_ok]
  rfl
theorem geom_calls (w : World) : Calls Tryd.prog 26 #[] w fun e w' => e = .returned (gv 1 4 9) ∧ On w w' := by
  go_enter Tryd.func26, Tryd.ntmps26
  go_wp2
  exact bodyPost_ret (v := gv 1 4 9) (by simp [results, Tryd.results26, go_sem]) rfl ⟨rfl, on_alloc _ _⟩
/-- The slot of the statements. -/
def aS : Slt := ⟨3, 1, ⟨#[97, 98]⟩⟩
theorem aS_may : mayB aS 1 4 9 = true := by decide +kernel
theorem aS_no : mayB aS 0 0 0 = false := by decide +kernel
theorem aS_words : ∃ t : Nat, slW aS = [25185, 0, t] ∧ (t : Int).tmod 4294967296 = 131331 := by
  have hz : ¬ isZ aS = true := by decide
  refine ⟨tailN aS + 4294967296 * crcN (pw aS.S 0) (pw aS.S 1) (tailN aS), ?_, ?_⟩
  · unfold slW
    rw [if_neg hz]
    have e0 : pw aS.S 0 = 25185 := by decide +kernel
    have e1 : pw aS.S 1 = 0 := by decide +kernel
    rw [e0, e1]
  · have e : tailN aS = 131331 := by decide +kernel
    rw [e, Int.tmod_eq_emod_of_nonneg (by omega)]
    omega
set_option maxRecDepth 100000 in
set_option maxHeartbeats 4000000 in
theorem alive_calls (w : World) (hT : TabAt w) (hE : ErrAt w) : Calls Tryd.prog 9 #[] w fun e w' => e = .returned (.bool true) ∧ On w w' := by
  have hen : ∀ u, TabAt u → Calls Tryd.prog 10 #[aS.v, gv 1 4 9] u fun e w' => ∃ A c, e = .returned (.tuple #[.slice A (slW aS).length c, .int .i64 0]) ∧ (slW aS).length ≤ c ∧ Row w' A (slW aS) ∧ Below u.heap.size u w' := fun u hu => by
    refine (encode_ok aS 1 4 9 u aS_may hu).mono ?_
    rintro e w' ⟨g, rfl, hI, hge, hon⟩
    rw [slW_length]
    exact ⟨_, 3, rfl, Nat.le_refl _, Blk.row hI, hon⟩
  have hok := decOk_slW (x := aS) (I := 4) (by decide +kernel) (by decide)
  have hde : ∀ A c u, Row u A (slW aS) → 3 ≤ c → TabAt u → Calls Tryd.prog 21 #[.slice A 3 c, gv 1 4 9] u fun e w' => e = .returned (.tuple #[aS.v, .nilIface]) ∧ On u w' := fun A c u hr hc hu => by
    have h := dec_calls A (slW aS) c 1 4 9 u hr (slW_wd (okS_fit (x := aS) (I := 4) (by decide +kernel) (by decide))) (by rw [slW_length]; exact hc) hu
    have e1 : decBad (slW aS) 1 4 9 = none := by unfold decBad; rw [if_neg (by decide), if_pos hok.1]
    have e2 : decV (slW aS) 1 4 9 = aS := by unfold decV; rw [if_pos e1, hok.2]
    rw [e1, e2, slW_length] at h
    exact h
  have hd3 : ∀ A c u, Row u A [1, 2, 3] → 3 ≤ c → TabAt u → Calls Tryd.prog 21 #[.slice A 3 c, gv 1 4 9] u fun e w' => e = .returned (.tuple #[.agg #[.int .i64 0, .int .u8 0, .string ⟨#[]⟩], misV 0 7 slotT]) ∧ On u w' := fun A c u hr hc hu => by
    have h := dec_calls A [1, 2, 3] c 1 4 9 u hr (fun j => by
      match j with
      | 0 => decide
      | 1 => decide
      | 2 => decide
      | j + 3 => simp) hc hu
    have e0 : decOk [1, 2, 3] 4 = false := by decide +kernel
    have e1 : decBad [1, 2, 3] 1 4 9 = some 7 := by unfold decBad; rw [if_neg (by decide), if_neg (by rw [e0]; decide)]
    have e2 : decV [1, 2, 3] 1 4 9 = zS := by unfold decV; rw [e1]; rfl
    rw [e1, e2] at h
    exact h
  obtain ⟨t, et, hT32⟩ := aS_words
  have hlen := slW_length aS
  generalize slW aS = l at *
  have HEN := Lib.hid hen
  have HDE := Lib.hid hde
  have HD3 := Lib.hid hd3
  have HET := Lib.hid et
  have HT32 := Lib.hid hT32
  have HLEN := Lib.hid hlen
  have HT := Lib.hid hT
  have HE := Lib.hid hE
  have HA0 := Lib.hid (show Sb (w.alloc (.cells #[.int .i64 3, .int .u8 1, .string ⟨#[97, 98]⟩] 23)) w.heap.size aS from Ob.new w _)
  have B0 := Lib.hid (on_alloc w (.cells #[.int .i64 3, .int .u8 1, .string ⟨#[97, 98]⟩] 23))
  clear hen hok hde hd3 et hT32 hlen hT hE
  go_enter Tryd.func9, Tryd.ntmps9
  go_upto_region 2 with (fail)
  generalize w.alloc (.cells #[.int .i64 3, .int .u8 1, .string ⟨#[97, 98]⟩] 23) = W at *
  refine wp_region4 [.val aS.v, .val (gv 1 4 9), .trow l, .trow l, .row l, .val (.int .i64 0), .row l, .val (.int .i64 0)] (by kernel_rfl) (by kernel_rfl) (by kernel_rfl) ?steps ?rest
  case steps =>
    refine ⟨?s0, ?s1, ?s2, ?s3, ?s4, ?s5, ?s6, ?s7, trivial⟩
    case s0 =>
      exact st4_val _ rfl (.inl rfl) fun a u hb hA hd => run_loadS rfl w.heap.size _ _ _ (hA.eval 1 rfl) (Ob.on HA0.out hb)
    case s1 =>
      refine st4_call _ rfl (.inl rfl) 26 #[] fun a u hb hA hd => ⟨?_, geom_calls u⟩
      unfold execOp
      simp [go_sem]
    case s2 =>
      refine st4_trow l rfl (.inl rfl) 10 #[aS.v, gv 1 4 9] fun a u hb hA hd => ⟨?_, HEN.out u (HT.out.below (B0.out.trans hb))⟩
      have q0 := ev_of (hd 0 12 rfl rfl _ rfl)
      have q1 := ev_of (hd 1 13 rfl rfl _ rfl)
      unfold execOp
      simp [go_sem, q0, q1]
    case s3 => exact st4_move 2 14 rfl (.inl rfl) rfl rfl rfl
    case s4 => exact st4_ext0 3 11 (l) rfl rfl (.inl rfl) rfl rfl rfl
    case s5 => exact st4_ext1 3 11 (l) rfl rfl (.inl rfl) rfl rfl rfl
    case s6 => exact st4_assign 4 15 rfl (.inl rfl) rfl rfl rfl
    case s7 => exact st4_assign 5 16 rfl (.inl rfl) rfl rfl rfl
  case rest =>
    intro vs u hb hR
    obtain ⟨A, c, e6, hc, hr⟩ := hR 6 (by decide)
    have e7 := hR 7 (by decide)
    replace e7 : vs 7 = .int .i64 0 := e7
    rw [HLEN.out] at e6 hc
    have HR2 := Lib.hid hr
    have B2 := Lib.hid (B0.out.trans hb)
    have HA2 := Lib.hid (Ob.on HA0.out hb)
    simp only [putsFrom, Act.put, List.setIfInBounds_toArray, List.set_cons_succ, List.set_cons_zero, e6, e7]
    generalize vs 0 = z0
    generalize vs 1 = z1
    generalize vs 2 = z2
    generalize vs 3 = z3
    generalize vs 4 = z4
    generalize vs 5 = z5
    clear hR e6 e7 hr hb B0 HA0 HEN
    go_wp2_with (fail)
    refine (geom_calls _).mono ?_
    rintro e u2 ⟨rfl, hb⟩
    have B3 := Lib.hid (B2.out.trans hb)
    have HA3 := Lib.hid (Ob.on HA2.out hb)
    have HR3 := Lib.hid (HR2.out.below hb)
    clear B2 HA2 HR2 hb
    go_wp2_with (fail)
    refine (HDE.out A c _ HR3.out hc (HT.out.below B3.out)).mono ?_
    rintro e u3 ⟨rfl, hb⟩
    have hy := Ob.new u3 (.cells #[.int .i64 aS.I, .int .u8 aS.K, .string aS.S] 23)
    have hb4 := hb.trans (on_alloc u3 (.cells #[.int .i64 aS.I, .int .u8 aS.K, .string aS.S] 23))
    have B4 := Lib.hid (B3.out.trans hb4)
    have HA4 := Lib.hid (Ob.on HA3.out hb4)
    have HR4 := Lib.hid (HR3.out.below hb4)
    have HY4 := Lib.hid (show Sb _ _ aS from hy)
    clear B3 HA3 HR3 hb hb4 hy HDE
    go_upto_region 4 with (fail)
    generalize u3.alloc (.cells #[.int .i64 aS.I, .int .u8 aS.K, .string aS.S] 23) = V at *
    generalize u3.heap.size = by4 at *
    clear u3
    have us := Tryd.underlying31
    go_wp2_with (fail)
    clear us
    have hl := (show Blk 36 (V.alloc (.cells #[.int .u64 1, .int .u64 2, .int .u64 3] 36)) V.heap.size [1, 2, 3] from heap_alloc_new V _).row
    have hb := on_alloc V (.cells #[.int .u64 1, .int .u64 2, .int .u64 3] 36)
    have B5 := Lib.hid (B4.out.trans hb)
    have HA5 := Lib.hid (Ob.on HA4.out hb)
    have HR5 := Lib.hid (HR4.out.below hb)
    have HY5 := Lib.hid (show Sb _ _ aS from Ob.on HY4.out hb)
    have HL5 := Lib.hid hl
    clear B4 HA4 HR4 HY4 hb hl
    refine (geom_calls _).mono ?_
    rintro e u4 ⟨rfl, hb⟩
    have B4 := Lib.hid (B5.out.trans hb)
    have HA4 := Lib.hid (Ob.on HA5.out hb)
    have HR4 := Lib.hid (HR5.out.below hb)
    have HY4 := Lib.hid (show Sb _ _ aS from Ob.on HY5.out hb)
    have HL4 := Lib.hid (HL5.out.below hb)
    clear B5 HA5 HR5 HY5 HL5 hb
    go_wp2_with (fail)
    refine (HD3.out _ 3 _ HL4.out (Nat.le_refl _) (HT.out.below B4.out)).mono ?_
    rintro e u5 ⟨rfl, hb⟩
    have hb5 := hb.trans (on_alloc u5 (.cells #[.int .i64 0, .int .u8 0, .string ⟨#[]⟩] 23))
    have B5 := Lib.hid (B4.out.trans hb5)
    have HA5 := Lib.hid (Ob.on HA4.out hb5)
    have HR5 := Lib.hid (HR4.out.below hb5)
    have HY5 := Lib.hid (show Sb _ _ aS from Ob.on HY4.out hb5)
    clear B4 HA4 HR4 HY4 HL4 hb hb5 HD3
    go_upto_region 5 with (fail)
    generalize u5.alloc (.cells #[.int .i64 0, .int .u8 0, .string ⟨#[]⟩] 23) = V5 at *
    go_wp2_with (fail)
    refine (geom_calls _).mono ?_
    rintro e u6 ⟨rfl, hb⟩
    have B4 := Lib.hid (B5.out.trans hb)
    have HA4 := Lib.hid (Ob.on HA5.out hb)
    have HR4 := Lib.hid (HR5.out.below hb)
    have HY4 := Lib.hid (show Sb _ _ aS from Ob.on HY5.out hb)
    clear B5 HA5 HR5 HY5 hb
    go_wp2_with (fail)
    refine (head_ok 5 1 4 9 _ (by decide)).mono ?_
    rintro e u7 ⟨rfl, hb⟩
    have B6 := Lib.hid (B4.out.trans hb)
    have HA6 := Lib.hid (Ob.on HA4.out hb)
    have hr := HR4.out.below hb
    have HY6 := Lib.hid (show Sb _ _ aS from Ob.on HY4.out hb)
    clear B4 HA4 HR4 HY4 hb
    obtain rfl := HET.out
    obtain ⟨ad, rfl, hlr, hcs⟩ := hr (by simp)
    obtain ⟨ab, ao, ap⟩ := ad
    have c0 := hcs 0 (by simp)
    have c2 := hcs 2 (by simp)
    obtain rfl := spot_none c0
    have C0 := Lib.hid (show ∀ u, On u7 u → u.cell? ⟨ab, ao, none⟩ = some (.int .u64 25185) from fun u hu => (World.cell?_of_block (Below.block hu ab hlr)).trans c0)
    have C2 := Lib.hid (show ∀ u, On u7 u → u.cell? ⟨ab, ao + 2, none⟩ = some (.int .u64 (t : Nat)) from fun u hu => (World.cell?_of_block (Below.block hu ab hlr)).trans c2)
    clear hr hcs c0 c2 hlr HET HLEN
    go_upto_region 6 with (fail)
    refine wp_region4 [.val (.int .i64 0), .val (.bool true), .val (.bool true), .val (.slice (some ⟨ab, ao, none⟩) 3 c), .val (.int .i64 3), .val (.bool true), .val (.bool true), .val (.bool true), .val (.slice (some ⟨ab, ao, none⟩) 3 c), .val (.pointer (some ⟨ab, ao + 2, none⟩)), .val (.int .u64 (t : Nat)), .val (.int .u64 131331), .val (.bool true), .val (.bool true), .val (.bool true), .val (.slice (some ⟨ab, ao, none⟩) 3 c), .val (.pointer (some ⟨ab, ao, none⟩)), .val (.int .u64 25185), .val (.bool true), .val (.bool true), .val (.bool true), .val aS.v, .val aS.v, .val (.bool true), .val (.bool true), .val (.bool true), .val .nilIface, .val (.bool true), .val (.bool true), .val (.bool true), .val (misV 0 7 slotT), .val (.agg #[.int .i64 0, .int .i64 7]), .val (.bool true), .val (.bool true), .val (.bool true), .val (.int .u64 4920554438285852677), .val (.bool true), .val (.bool true), .val (.bool true), .val (.int .i64 0), .val (.bool true), .val (.bool true), .val (.bool true), .val aS.v, .val (gv 1 4 9), .val (.bool true), .val (.bool true), .val (.bool true), .val aS.v, .val (gv 0 0 0), .val (.bool false), .val (.bool true), .val (.bool true), .val (.bool true)] (by kernel_rfl) (by kernel_rfl) (by kernel_rfl) ?steps6 ?rest6
    case steps6 =>
      refine ⟨?s0, ?s1, ?s2, ?s3, ?s4, ?s5, ?s6, ?s7, ?s8, ?s9, ?s10, ?s11, ?s12, ?s13, ?s14, ?s15, ?s16, ?s17, ?s18, ?s19, ?s20, ?s21, ?s22, ?s23, ?s24, ?s25, ?s26, ?s27, ?s28, ?s29, ?s30, ?s31, ?s32, ?s33, ?s34, ?s35, ?s36, ?s37, ?s38, ?s39, ?s40, ?s41, ?s42, ?s43, ?s44, ?s45, ?s46, ?s47, ?s48, ?s49, ?s50, ?s51, ?s52, ?s53, trivial⟩
      case s0 =>
        exact st4_val _ rfl (.inl rfl) fun a u hb hA hd => by
          have q0 := ev_of (show a.eval (.tmp 3) = .int .i64 0 from hA.eval 3 rfl)
          unfold execOp
          simp [go_sem, q0]
      case s1 =>
        exact st4_val _ rfl (.inl rfl) fun a u hb hA hd => by
          have q0 := ev_of (hd 0 34 rfl rfl _ rfl)
          unfold execOp
          simp [go_sem, q0]
      case s2 => exact st4_move 1 35 rfl (.inl rfl) rfl rfl rfl
      case s3 =>
        exact st4_val _ rfl (.inr ⟨2, 36, true, rfl, rfl, rfl, rfl⟩) fun a u hb hA hd => by
          have q0 := ev_of (show a.eval (.tmp 2) = .slice (some ⟨ab, ao, none⟩) 3 c from hA.eval 2 rfl)
          unfold execOp
          simp [go_sem, q0]
      case s4 =>
        exact st4_val _ rfl (.inr ⟨2, 36, true, rfl, rfl, rfl, rfl⟩) fun a u hb hA hd => run_len rfl _ 3 c (hd 3 37 rfl rfl _ rfl)
      case s5 =>
        exact st4_val _ rfl (.inr ⟨2, 36, true, rfl, rfl, rfl, rfl⟩) fun a u hb hA hd => by
          have q0 := ev_of (hd 4 38 rfl rfl _ rfl)
          unfold execOp
          simp [go_sem, q0]
      case s6 => exact st4_val _ rfl (.inl rfl) fun a u hb hA hd => (run_pickT rfl (hd 2 36 rfl rfl _ rfl)).trans (by rw [hd 5 39 rfl rfl _ rfl])
      case s7 => exact st4_move 6 40 rfl (.inl rfl) rfl rfl rfl
      case s8 =>
        exact st4_val _ rfl (.inr ⟨7, 41, true, rfl, rfl, rfl, rfl⟩) fun a u hb hA hd => by
          have q0 := ev_of (show a.eval (.tmp 2) = .slice (some ⟨ab, ao, none⟩) 3 c from hA.eval 2 rfl)
          unfold execOp
          simp [go_sem, q0]
      case s9 =>
        exact st4_val _ rfl (.inr ⟨7, 41, true, rfl, rfl, rfl, rfl⟩) fun a u hb hA hd => run_iaddr 2 rfl ab ao 3 c (hd 8 42 rfl rfl _ rfl) (by decide)
      case s10 =>
        exact st4_val _ rfl (.inr ⟨7, 41, true, rfl, rfl, rfl, rfl⟩) fun a u hb hA hd => run_load64 rfl ⟨ab, ao + 2, none⟩ _ (hd 9 43 rfl rfl _ rfl) (C2.out u hb)
      case s11 =>
        exact st4_val _ rfl (.inr ⟨7, 41, true, rfl, rfl, rfl, rfl⟩) fun a u hb hA hd => by
          have q0 := ev_of (hd 10 44 rfl rfl _ rfl)
          unfold execOp
          simp [go_sem, q0, HT32.out]
      case s12 =>
        exact st4_val _ rfl (.inr ⟨7, 41, true, rfl, rfl, rfl, rfl⟩) fun a u hb hA hd => by
          have q0 := ev_of (hd 11 45 rfl rfl _ rfl)
          unfold execOp
          simp [go_sem, q0]
      case s13 => exact st4_val _ rfl (.inl rfl) fun a u hb hA hd => (run_pickT rfl (hd 7 41 rfl rfl _ rfl)).trans (by rw [hd 12 46 rfl rfl _ rfl])
      case s14 => exact st4_move 13 47 rfl (.inl rfl) rfl rfl rfl
      case s15 =>
        exact st4_val _ rfl (.inr ⟨14, 48, true, rfl, rfl, rfl, rfl⟩) fun a u hb hA hd => by
          have q0 := ev_of (show a.eval (.tmp 2) = .slice (some ⟨ab, ao, none⟩) 3 c from hA.eval 2 rfl)
          unfold execOp
          simp [go_sem, q0]
      case s16 =>
        exact st4_val _ rfl (.inr ⟨14, 48, true, rfl, rfl, rfl, rfl⟩) fun a u hb hA hd => run_iaddr0 rfl ab ao 3 c (hd 15 49 rfl rfl _ rfl) (by decide)
      case s17 =>
        exact st4_val _ rfl (.inr ⟨14, 48, true, rfl, rfl, rfl, rfl⟩) fun a u hb hA hd => run_load64 rfl ⟨ab, ao, none⟩ _ (hd 16 50 rfl rfl _ rfl) (C0.out u hb)
      case s18 =>
        exact st4_val _ rfl (.inr ⟨14, 48, true, rfl, rfl, rfl, rfl⟩) fun a u hb hA hd => by
          have q0 := ev_of (hd 17 51 rfl rfl _ rfl)
          unfold execOp
          simp [go_sem, q0]
      case s19 => exact st4_val _ rfl (.inl rfl) fun a u hb hA hd => (run_pickT rfl (hd 14 48 rfl rfl _ rfl)).trans (by rw [hd 18 52 rfl rfl _ rfl])
      case s20 => exact st4_move 19 53 rfl (.inl rfl) rfl rfl rfl
      case s21 =>
        exact st4_val _ rfl (.inr ⟨20, 54, true, rfl, rfl, rfl, rfl⟩) fun a u hb hA hd => run_loadS rfl by4 _ _ _ (hA.eval 4 rfl) (Ob.on HY6.out hb)
      case s22 =>
        exact st4_val _ rfl (.inr ⟨20, 54, true, rfl, rfl, rfl, rfl⟩) fun a u hb hA hd => run_loadS rfl w.heap.size _ _ _ (hA.eval 1 rfl) (Ob.on HA6.out hb)
      case s23 =>
        exact st4_val _ rfl (.inr ⟨20, 54, true, rfl, rfl, rfl, rfl⟩) fun a u hb hA hd => run_eqS rfl aS aS (hd 21 55 rfl rfl _ rfl) (hd 22 56 rfl rfl _ rfl) (sameS_self _)
      case s24 => exact st4_val _ rfl (.inl rfl) fun a u hb hA hd => (run_pickT rfl (hd 20 54 rfl rfl _ rfl)).trans (by rw [hd 23 57 rfl rfl _ rfl])
      case s25 => exact st4_move 24 58 rfl (.inl rfl) rfl rfl rfl
      case s26 =>
        exact st4_val _ rfl (.inr ⟨25, 59, true, rfl, rfl, rfl, rfl⟩) fun a u hb hA hd => by
          have q0 := ev_of (show a.eval (.tmp 5) = .nilIface from hA.eval 5 rfl)
          unfold execOp
          simp [go_sem, q0]
      case s27 =>
        exact st4_val _ rfl (.inr ⟨25, 59, true, rfl, rfl, rfl, rfl⟩) fun a u hb hA hd => by
          have q0 := ev_of (hd 26 60 rfl rfl _ rfl)
          unfold execOp
          simp [go_sem, q0]
      case s28 => exact st4_val _ rfl (.inl rfl) fun a u hb hA hd => (run_pickT rfl (hd 25 59 rfl rfl _ rfl)).trans (by rw [hd 27 61 rfl rfl _ rfl])
      case s29 => exact st4_move 28 62 rfl (.inl rfl) rfl rfl rfl
      case s30 =>
        exact st4_val _ rfl (.inr ⟨29, 63, true, rfl, rfl, rfl, rfl⟩) fun a u hb hA hd => by
          have q0 := ev_of (show a.eval (.tmp 7) = misV 0 7 slotT from hA.eval 7 rfl)
          unfold execOp
          simp [go_sem, q0]
      case s31 =>
        exact st4_val _ rfl (.inr ⟨29, 63, true, rfl, rfl, rfl, rfl⟩) fun a u hb hA hd => by
          unfold execOp
          simp [go_sem]
      case s32 =>
        refine st4_call _ rfl (.inr ⟨29, 63, true, rfl, rfl, rfl, rfl⟩) 25 #[misV 0 7 slotT, .agg #[.int .i64 0, .int .i64 7]] fun a u hb hA hd => ⟨?_, told_at 0 7 slotT u rfl (HE.out.below (B6.out.trans hb))⟩
        have q0 := ev_of (hd 30 64 rfl rfl _ rfl)
        have q1 := ev_of (hd 31 65 rfl rfl _ rfl)
        unfold execOp
        simp [go_sem, q0, q1]
      case s33 => exact st4_val _ rfl (.inl rfl) fun a u hb hA hd => (run_pickT rfl (hd 29 63 rfl rfl _ rfl)).trans (by rw [hd 32 66 rfl rfl _ rfl])
      case s34 => exact st4_move 33 67 rfl (.inl rfl) rfl rfl rfl
      case s35 =>
        exact st4_val _ rfl (.inr ⟨34, 68, true, rfl, rfl, rfl, rfl⟩) fun a u hb hA hd => by
          have q0 := ev_of (show a.eval (.tmp 8) = .int .u64 4920554438285852677 from hA.eval 8 rfl)
          unfold execOp
          simp [go_sem, q0]
      case s36 =>
        exact st4_val _ rfl (.inr ⟨34, 68, true, rfl, rfl, rfl, rfl⟩) fun a u hb hA hd => by
          have q0 := ev_of (hd 35 69 rfl rfl _ rfl)
          unfold execOp
          simp [go_sem, q0]
      case s37 => exact st4_val _ rfl (.inl rfl) fun a u hb hA hd => (run_pickT rfl (hd 34 68 rfl rfl _ rfl)).trans (by rw [hd 36 70 rfl rfl _ rfl])
      case s38 => exact st4_move 37 71 rfl (.inl rfl) rfl rfl rfl
      case s39 =>
        exact st4_val _ rfl (.inr ⟨38, 72, true, rfl, rfl, rfl, rfl⟩) fun a u hb hA hd => by
          have q0 := ev_of (show a.eval (.tmp 9) = .int .i64 0 from hA.eval 9 rfl)
          unfold execOp
          simp [go_sem, q0]
      case s40 =>
        exact st4_val _ rfl (.inr ⟨38, 72, true, rfl, rfl, rfl, rfl⟩) fun a u hb hA hd => by
          have q0 := ev_of (hd 39 73 rfl rfl _ rfl)
          unfold execOp
          simp [go_sem, q0]
      case s41 => exact st4_val _ rfl (.inl rfl) fun a u hb hA hd => (run_pickT rfl (hd 38 72 rfl rfl _ rfl)).trans (by rw [hd 40 74 rfl rfl _ rfl])
      case s42 => exact st4_move 41 75 rfl (.inl rfl) rfl rfl rfl
      case s43 =>
        exact st4_val _ rfl (.inr ⟨42, 76, true, rfl, rfl, rfl, rfl⟩) fun a u hb hA hd => run_loadS rfl w.heap.size _ _ _ (hA.eval 1 rfl) (Ob.on HA6.out hb)
      case s44 =>
        refine st4_call _ rfl (.inr ⟨42, 76, true, rfl, rfl, rfl, rfl⟩) 26 #[] fun a u hb hA hd => ⟨?_, geom_calls u⟩
        unfold execOp
        simp [go_sem]
      case s45 =>
        refine st4_call _ rfl (.inr ⟨42, 76, true, rfl, rfl, rfl, rfl⟩) 14 #[aS.v, gv 1 4 9] fun a u hb hA hd => ⟨?_, emay_calls aS 1 4 9 u⟩
        have q0 := ev_of (hd 43 77 rfl rfl _ rfl)
        have q1 := ev_of (hd 44 78 rfl rfl _ rfl)
        unfold execOp
        simp [go_sem, q0, q1]
      case s46 => exact st4_val _ rfl (.inl rfl) fun a u hb hA hd => (run_pickT rfl (hd 42 76 rfl rfl _ rfl)).trans (by rw [hd 45 79 rfl rfl _ rfl])
      case s47 => exact st4_move 46 80 rfl (.inl rfl) rfl rfl rfl
      case s48 =>
        exact st4_val _ rfl (.inr ⟨47, 81, true, rfl, rfl, rfl, rfl⟩) fun a u hb hA hd => run_loadS rfl w.heap.size _ _ _ (hA.eval 1 rfl) (Ob.on HA6.out hb)
      case s49 =>
        exact st4_val _ rfl (.inr ⟨47, 81, true, rfl, rfl, rfl, rfl⟩) fun a u hb hA hd => by
          unfold execOp
          simp [go_sem]
      case s50 =>
        refine st4_call _ rfl (.inr ⟨47, 81, true, rfl, rfl, rfl, rfl⟩) 14 #[aS.v, gv 0 0 0] fun a u hb hA hd => ⟨?_, emay_calls aS 0 0 0 u⟩
        have q0 := ev_of (hd 48 82 rfl rfl _ rfl)
        have q1 := ev_of (hd 49 83 rfl rfl _ rfl)
        unfold execOp
        simp [go_sem, q0, q1]
      case s51 =>
        exact st4_val _ rfl (.inr ⟨47, 81, true, rfl, rfl, rfl, rfl⟩) fun a u hb hA hd => by
          have q0 := ev_of (hd 50 84 rfl rfl _ rfl)
          unfold execOp
          simp [go_sem, q0]
      case s52 => exact st4_val _ rfl (.inl rfl) fun a u hb hA hd => (run_pickT rfl (hd 47 81 rfl rfl _ rfl)).trans (by rw [hd 51 85 rfl rfl _ rfl])
      case s53 => exact st4_assign 52 86 rfl (.inl rfl) rfl rfl rfl
    case rest6 =>
      intro vs u hb hR
      have e53 := hR 53 (by decide)
      replace e53 : vs 53 = .bool true := e53
      simp only [putsFrom, Act.put, List.setIfInBounds_toArray, List.set_cons_succ, List.set_cons_zero, e53]
      clear hR e53
      go_wp2
      go_ret
      exact ⟨rfl, B6.out.trans hb⟩
end Go.Proofs.YtipghcpodhokbaaDoor
/- long: which blocks a statement does not look at. Blocks compared. -/
namespace Go.Proofs.YtipghcpodhokbaaDoor
open Go.RowKit WordMath SumMath
/-- Has one of the slots a name of more than 200 bytes? -/
def longD (d : Dbl) : Bool := d.L.any fun x => decide (200 < x.S.size)
theorem longD_no {d : Dbl} (h : longD d = false) (k : Nat) (hk : k < d.L.length) : (d.L.getD k zS).S.size ≤ 200 := by
  unfold longD at h
  rw [List.any_eq_false] at h
  rw [List.getD_eq_getElem?_getD, List.getElem?_eq_getElem hk, Option.getD_some]
  have := h _ (List.getElem_mem hk)
  simpa using this
theorem longD_yes {d : Dbl} {k : Nat} (hk : k < d.L.length) (h : 200 < (d.L.getD k zS).S.size) : longD d = true := by
  unfold longD
  rw [List.any_eq_true]
  refine ⟨d.L[k], List.getElem_mem hk, ?_⟩
  rw [List.getD_eq_getElem?_getD, List.getElem?_eq_getElem hk, Option.getD_some] at h
  exact decide_eq_true h
theorem longD_all {d : Dbl} (h : ∀ k, k < d.L.length → (d.L.getD k zS).S.size ≤ 200) : longD d = false := by
  unfold longD
  rw [List.any_eq_false]
  intro x hx
  obtain ⟨k, hk, rfl⟩ := List.getElem_of_mem hx
  have := h k hk
  rw [List.getD_eq_getElem?_getD, List.getElem?_eq_getElem hk, Option.getD_some] at this
  simpa using this
set_option maxRecDepth 100000 in
set_option maxHeartbeats 1000000 in
theorem long_calls (d : Dbl) (w : World) (hL : d.L.length = 10) : Calls Tryd.prog 8 #[d.v] w fun e w' => e = .returned (.bool (longD d)) ∧ On w w' := by
  have d0 : Db (w.alloc (.cells d.c 26)) w.heap.size d := Ob.new w _
  have D0 := Lib.hid d0
  have B0 := Lib.hid (on_alloc w (.cells d.c 26))
  have HL := Lib.hid hL
  clear d0 hL
  generalize hr : longD d = r
  have HR := Lib.hid hr
  clear hr
  go_enter Tryd.func8, Tryd.ntmps8
  go_upto_region 1 with (fail)
  generalize w.alloc (.cells d.c 26) = W at *
  go_wp2_with (fail)
  go_loopw [3] (fun i wr => ∃ k : Nat, i = .int .i64 k ∧ k ≤ 10 ∧ (Hid (∀ j, j < k → (d.L.getD j zS).S.size ≤ 200)) ∧ Hid (Db wr w.heap.size d) ∧ Hid (On w wr)) (fun i _ => 10 - (intOf i).toNat)
  case atStart => exact ⟨0, rfl, by omega, Lib.hid fun j hj => absurd hj (by omega), D0, B0⟩
  case round =>
    obtain ⟨k, rfl, hk, hok, hdb, hon⟩ := hrel
    clear D0 B0
    by_cases hk10 : k < 10
    · have c2 := (Db.cells hdb.out k (by rw [HL.out]; exact hk10)).2.2
      have hlt := Ob.lt hdb.out
      by_cases hs : 200 < (d.L.getD k zS).S.size
      · obtain rfl : true = r := HR.out ▸ (longD_yes (by rw [HL.out]; exact hk10) hs).symm
        generalize (d.L.getD k zS).S = s at *
        go_wp2_with (fail)
        go_ret
        exact ⟨rfl, hon.out⟩
      · have hok2 : Hid (∀ j, j < k + 1 → (d.L.getD j zS).S.size ≤ 200) := Lib.hid fun j hj => by
          rcases Nat.lt_or_ge j k with h | h
          · exact hok.out j h
          · obtain rfl : j = k := by omega
            omega
        generalize (d.L.getD k zS).S = s at *
        go_wp2_with (fail)
        go_roundw
        case rel => exact ⟨k + 1, by simp, by omega, hok2, hdb, hon⟩
        case measure => simp [intOf]; omega
    · obtain rfl : k = 10 := by omega
      obtain rfl : false = r := HR.out ▸ (longD_all (by rw [HL.out]; exact hok.out)).symm
      go_wp2_with (fail)
      go_ret
      exact ⟨rfl, hon.out⟩
end Go.Proofs.YtipghcpodhokbaaDoor
/- Blocks, compared. -/
namespace Go.Proofs.YtipghcpodhokbaaDoor
open Go.RowKit
theorem part_slot (L : List Slt) (k : Nat) (hk : k < L.length) (w : World) : (Go.part 23 (slcs L).toArray (k * 3)).run Tryd.prog w = .ok (.agg #[.int .i64 (L.getD k zS).I, .int .u8 (L.getD k zS).K, .string (L.getD k zS).S]) w := by
  have hp := slcs_part L k hk
  generalize L.getD k zS = x at *
  have a23 := Tryd.isAgg23
  have z23 := Tryd.sizeOf23
  simp [go_sem, Go.part, a23, z23, hp]
set_option maxRecDepth 100000 in
set_option maxHeartbeats 1000000 in
theorem eqA_in (d : Nat) (L : List Slt) (h10 : L.length = 10) (w : World) : (Op.equalIn (d + 3) 24 (slv L) (slv L)).run Tryd.prog w = .ok true w := by
  have z23 := Tryd.sizeOf23
  have p0 : ∀ w, (Go.part 23 (slcs L).toArray 0).run Tryd.prog w = .ok (.agg #[.int .i64 (L.getD 0 zS).I, .int .u8 (L.getD 0 zS).K, .string (L.getD 0 zS).S]) w := fun w => part_slot L 0 (by omega) w
  have p1 : ∀ w, (Go.part 23 (slcs L).toArray 3).run Tryd.prog w = .ok (.agg #[.int .i64 (L.getD 1 zS).I, .int .u8 (L.getD 1 zS).K, .string (L.getD 1 zS).S]) w := fun w => part_slot L 1 (by omega) w
  have p2 : ∀ w, (Go.part 23 (slcs L).toArray 6).run Tryd.prog w = .ok (.agg #[.int .i64 (L.getD 2 zS).I, .int .u8 (L.getD 2 zS).K, .string (L.getD 2 zS).S]) w := fun w => part_slot L 2 (by omega) w
  have p3 : ∀ w, (Go.part 23 (slcs L).toArray 9).run Tryd.prog w = .ok (.agg #[.int .i64 (L.getD 3 zS).I, .int .u8 (L.getD 3 zS).K, .string (L.getD 3 zS).S]) w := fun w => part_slot L 3 (by omega) w
  have p4 : ∀ w, (Go.part 23 (slcs L).toArray 12).run Tryd.prog w = .ok (.agg #[.int .i64 (L.getD 4 zS).I, .int .u8 (L.getD 4 zS).K, .string (L.getD 4 zS).S]) w := fun w => part_slot L 4 (by omega) w
  have p5 : ∀ w, (Go.part 23 (slcs L).toArray 15).run Tryd.prog w = .ok (.agg #[.int .i64 (L.getD 5 zS).I, .int .u8 (L.getD 5 zS).K, .string (L.getD 5 zS).S]) w := fun w => part_slot L 5 (by omega) w
  have p6 : ∀ w, (Go.part 23 (slcs L).toArray 18).run Tryd.prog w = .ok (.agg #[.int .i64 (L.getD 6 zS).I, .int .u8 (L.getD 6 zS).K, .string (L.getD 6 zS).S]) w := fun w => part_slot L 6 (by omega) w
  have p7 : ∀ w, (Go.part 23 (slcs L).toArray 21).run Tryd.prog w = .ok (.agg #[.int .i64 (L.getD 7 zS).I, .int .u8 (L.getD 7 zS).K, .string (L.getD 7 zS).S]) w := fun w => part_slot L 7 (by omega) w
  have p8 : ∀ w, (Go.part 23 (slcs L).toArray 24).run Tryd.prog w = .ok (.agg #[.int .i64 (L.getD 8 zS).I, .int .u8 (L.getD 8 zS).K, .string (L.getD 8 zS).S]) w := fun w => part_slot L 8 (by omega) w
  have p9 : ∀ w, (Go.part 23 (slcs L).toArray 27).run Tryd.prog w = .ok (.agg #[.int .i64 (L.getD 9 zS).I, .int .u8 (L.getD 9 zS).K, .string (L.getD 9 zS).S]) w := fun w => part_slot L 9 (by omega) w
  have e : ∀ x : Slt, ∀ w, (Op.equalIn (d + 2) 23 (.agg #[.int .i64 x.I, .int .u8 x.K, .string x.S]) (.agg #[.int .i64 x.I, .int .u8 x.K, .string x.S])).run Tryd.prog w = .ok true w := fun x w => by rw [eqS_in, sameS_self]
  rw [show d + 3 = (d + 2) + 1 from rfl, Op.equalIn]
  simp only [Sem.run_bind, run_underlying Tryd.underlying24, Result.andThen_ok, z23]
  simp only [Std.Legacy.Range.forIn_eq_forIn_range', Std.Legacy.Range.size, Nat.sub_zero, Nat.add_sub_cancel, Nat.div_one, List.range'_succ, List.range'_zero, List.forIn_cons, List.forIn_nil]
  simp only [Sem.run_bind, p0, p1, p2, p3, p4, p5, p6, p7, p8, p9, e, Result.andThen_ok, Bool.not_true, Bool.false_eq_true, if_false, Sem.run_pure]
set_option maxRecDepth 100000 in
/-- A block is itself. -/
theorem eqD (d : Dbl) (h10 : d.L.length = 10) (w : World) : (Op.equalIn 10000 26 d.v d.v).run Tryd.prog w = .ok true w := by
  have u3 := Tryd.underlying3
  have a3 := Tryd.isAgg3
  have z3 := Tryd.sizeOf3
  have a5 := Tryd.isAgg24
  have z5 := Tryd.sizeOf24
  have eA := fun w => eqA_in 9996 d.L h10 w
  have hS : Tryd.prog.underlying 26 = some (.struct (Tryd.prog.fieldsOf 26)) := by kernel_rfl
  have hp : Tryd.prog.stoodInHeld 26 = false := by kernel_rfl
  have hq1 : ∀ w, (Go.part 3 d.c 0).run Tryd.prog w = .ok (.int .i64 d.N) w := fun w => by
    unfold Dbl.c
    simp [go_sem, Go.part, a3, z3]
  have hq2 : ∀ w, (Go.part 24 d.c 1).run Tryd.prog w = .ok (slv d.L) w := fun w => by
    have hl := slcs_length d.L
    rw [h10] at hl
    have ht : List.take 30 (slcs d.L) = slcs d.L := List.take_of_length_le (by omega)
    unfold Dbl.c
    simp [go_sem, Go.part, a5, z5, hl, ht]
  show (Op.equalIn 10000 26 (.agg d.c) (.agg d.c)).run Tryd.prog w = .ok true w
  rw [show (10000 : Nat) = 9999 + 1 from rfl, run_equalIn_agg w 9999 26 _ _ hS hp]
  simp only [Program.fieldsOf, Tryd.underlying26]
  simp [Op.eqFields, Sem.run_bind, hq1, hq2, eA, run_equalIn_int, u3]
end Go.Proofs.YtipghcpodhokbaaDoor
