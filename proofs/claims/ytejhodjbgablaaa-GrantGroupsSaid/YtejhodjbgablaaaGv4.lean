/- GrantGroups: whatever it is called with, it hands back true. -/
import Derived.Test.YtejhodjbgablaaaGu
import Derived.Test.YtejhodjbgablaaaAtStp
import Derived.Test.YtejhodjbgablaaaGx
set_option linter.unusedSimpArgs false
set_option linter.unusedVariables false
namespace Go.Proofs.Ytejhodjbgablaaa
open Go.RowKit
theorem inB_perm {c d : Cr} (h1 : c.gi = d.gi) (h2 : ∀ g, c.gs.any (sameN g) = d.gs.any (sameN g)) (g : Nat) : inB c g = inB d g := by
  unfold inB
  rw [h1]
  congr 1
  exact h2 g
theorem any_turn (l : List Nat) (k g : Nat) : (l.drop k ++ l.take k).any (sameN g) = l.any (sameN g) := by
  rw [List.any_append, Bool.or_comm, ← List.any_append, List.take_append_drop]
theorem any_twice (l : List Nat) {k r : Nat} (hk : l[k]? = some r) (g : Nat) : (l ++ [r]).any (sameN g) = l.any (sameN g) := by
  rw [List.any_append, List.any_cons, List.any_nil, Bool.or_false]
  cases h : sameN g r with
  | false => rw [Bool.or_false]
  | true => rw [Bool.or_true]; exact (List.any_eq_true.2 ⟨r, List.mem_of_getElem? hk, h⟩).symm
theorem inB_self (c : Cr) (g : Nat) : inB ⟨c.ui, c.gi, c.gi :: c.gs, c.hi⟩ g = inB c g := by
  unfold inB
  rw [List.any_cons]
  show (decide (c.gi = g) || (decide (c.gi = g) || _)) = _
  cases decide (c.gi = g) <;> rfl
/-- The same process, of other groups. -/
def regroup (c : Cr) (l : List Nat) : Cr := ⟨c.ui, c.gi, l, c.hi⟩
/-- A row of groups of the call's own, made behind block B0; a row of one. -/
def ugS (B0 : Nat) (l : List Nat) : Sp4 := .prop (fun v w => ∃ A c, v = .slice A l.length c ∧ OwnR w 22 1 A l.length c (hv l) ∧ ∀ ad, A = some ad → B0 ≤ ad.block) fun v w w' h hb => by
  obtain ⟨A, c, e, hc, hA⟩ := h
  exact ⟨A, c, e, hc.keep fun ad ha => hb.block _ (hc.lt ad ha), hA⟩
def u1S (r : Nat) : Sp4 := .prop (fun v w => ∃ g, v = .slice (some ⟨g, 0, none⟩) 1 1 ∧ w.heap[g]? = some (.cells #[.int .u16 (r : Nat)] 22 (0, 0))) fun v w w' h hb => by
  obtain ⟨g, e, hg⟩ := h
  exact ⟨g, e, (hb.block g (lt_of_cells hg)).trans hg⟩
section
variable {P : Program}
theorem run_append_zero {w : World} (t ty e : TypeId) (i : TypeInfo) (ht : P.underlying t = some (.slice e)) (hi : P.info? e = some i) (g n c : Nat) (ad : Addr) (d : Nat) (hnc : n ≤ c) :
    (Builtin.append_ #[t, t] ty #[.slice (some ⟨g, 0, none⟩) n c, .slice (some ad) 0 d]).run P w = .ok (.slice (some ⟨g, 0, none⟩) n c) w := by
  have hld : ∀ a : Addr, (loadCells a 0).run P w = .ok #[] w := fun a => run_loadCells_list (P := P) w a [] (by simp)
  simp [Builtin.append_, run_underlying ht, sizeOf, typeInfo, hi, Builtin.lenOf, Builtin.firstCells, hld, storeCells, hnc]
theorem exec_append {o : Oper} {a : Act} {u w' : World} (s x : Operand) (t : TypeId) (ho : o.op = .call { callee := .builtin .append, args := #[s, x], argTypes := #[t, t] }) (vs vx v : Value) (hs : a.eval s = vs) (hx : a.eval x = vx)
    (hr : (Builtin.append_ #[t, t] o.type #[vs, vx]).run P u = .ok v w') : (execOp a.eval o).run P u = .ok (.value v) w' := by
  unfold execOp
  simp only [ho, resolve, invoke, builtin, Sem.run_bind, Sem.run_pure, Result.andThen_ok, List.map_toArray, List.map_cons, List.map_nil, hs, hx, hr]
end
/-- 'append(nil, l...)', of groups. -/
theorem run_ucl (ad : Addr) (L : List Nat) (c : Nat) (w : World) (ty : TypeId) (hc : ∀ j u, (hv L)[j]? = some u → w.cell? (ad.add j) = some u) (h0 : 0 < L.length) (hl : L.length ≤ 1000) :
    ∃ B cB w', (Builtin.append_ #[23, 23] ty #[.slice none 0 0, .slice (some ad) L.length c]).run Try.prog w = .ok (.slice B L.length cB) w' ∧ OwnR w' 22 1 B L.length cB (hv L) ∧ Below w.heap.size w w' ∧ ∀ a, B = some a → w.heap.size ≤ a.block := by
  obtain ⟨i0, hi, hz0, hz1, hz2⟩ := info_parts u16_info
  obtain ⟨g, c', w', h1, h2, h3, h4⟩ := run_append_r (P := Try.prog) w 23 ty 22 i0 (.int .u16 0) 1 2 Try.underlying23 hi hz0 hz1 hz2 rfl none 0 0 [] (OwnR.nil _ _ _) ad L.length c (hv L) (by rw [hv_length, Nat.mul_one]) hc (hv_one L) h0 (by unfold maxLen; omega) (by omega)
  rw [Nat.zero_add] at h1 h2
  rw [List.nil_append] at h2
  refine ⟨_, c', w', h1, h2, (Below.refl _ _).grown h3 (Nat.le_refl _) (fun _ e => by cases e), fun a e => ?_⟩
  injection e with e
  subst e
  rcases h4 with h4 | h4
  · cases h4
  · rw [h4]; exact Nat.le_refl _
/-- The groups of a process in a block are turned. -/
theorem Cb.turn {W : World} {g : Nat} {c : Cr} {A : Option Addr} {n : Nat} (h : Cb W g c A n) (l : List Nat) (B : Option Addr) (cB : Nat) : Cb (W.setCell ⟨g, 2, none⟩ (.slice B l.length cB)) g (regroup c l) B cB := by
  have h1 := set_cell h 2 (.slice B l.length cB)
  unfold Cb
  simpa [regroup] using h1
theorem hv_add {l : List Nat} {b o : Nat} {w : World} (h : ∀ j u, (hv l)[j]? = some u → w.cell? ⟨b, o + j, none⟩ = some u) : ∀ j u, (hv l)[j]? = some u → w.cell? ((⟨b, o, none⟩ : Addr).add j) = some u := fun j u hu => by
  have ad1 : ((⟨b, o, none⟩ : Addr).add j) = ⟨b, o + j, none⟩ := by
    unfold Addr.add
    by_cases hj : j = 0 <;> simp only [hj, if_true, if_false, Nat.add_zero]
  rw [ad1]
  exact h j u hu
/-- 'append(own, l...)', of groups. -/
theorem run_uapp (K : Nat) (w : World) (ty : TypeId) (B : Option Addr) (cB : Nat) (l l2 : List Nat) (ad : Addr) (d : Nat) (hown : OwnR w 22 1 B l.length cB (hv l)) (hB : ∀ a, B = some a → K ≤ a.block) (hK : K ≤ w.heap.size) (h0 : 0 < l.length)
    (hc : ∀ j u, (hv l2)[j]? = some u → w.cell? (ad.add j) = some u) (hs : l.length ≤ 1000) (hs2 : l2.length ≤ 1000) :
    ∃ D cD w', (Builtin.append_ #[23, 23] ty #[.slice B l.length cB, .slice (some ad) l2.length d]).run Try.prog w = .ok (.slice D (l ++ l2).length cD) w' ∧ Cel w' D (hv (l ++ l2)) ∧ (∀ a, D = some a → K ≤ a.block) ∧ ∀ v, Below K v w → Below K v w' := by
  obtain ⟨i0, hi, hz0, hz1, hz2⟩ := info_parts u16_info
  rcases Nat.eq_zero_or_pos l2.length with h2 | h2
  · obtain rfl : l2 = [] := List.eq_nil_of_length_eq_zero h2
    have ho := hown
    obtain ⟨_, hnc, _, hA⟩ := ho
    rcases hA with ⟨_, rfl⟩ | ⟨g, cur, rfl, _⟩
    · omega
    · refine ⟨some ⟨g, 0, none⟩, cB, w, ?_, ?_, hB, fun v h => h⟩
      · rw [List.append_nil]
        exact run_append_zero 23 ty 22 i0 Try.underlying23 hi g l.length cB ad d hnc
      · rw [List.append_nil]; exact hown.cel
  · obtain ⟨g, c', w', h1, h3, h4, h5⟩ := run_append_r (P := Try.prog) w 23 ty 22 i0 (.int .u16 0) 1 2 Try.underlying23 hi hz0 hz1 hz2 rfl B l.length cB (hv l) hown ad l2.length d (hv l2) (by rw [hv_length, Nat.mul_one]) hc (hv_one l2) h2 (by unfold maxLen; omega) (by omega)
    refine ⟨some ⟨g, 0, none⟩, c', w', by rw [List.length_append]; exact h1, by rw [hv_append]; exact h3.cel, fun a e => ?_, fun v h => h.grown h4 hK fun k hk => ?_⟩
    · injection e with e
      subst e
      rcases h5 with h5 | h5
      · exact hB _ h5
      · rw [h5]; exact hK
    · cases B with
      | none => cases hk
      | some a0 => simp only [Option.map_some, Option.some.injEq] at hk; subst hk; exact hB a0 rfl
theorem CLies.other {w : World} {c : Cr} {A : Option Addr} (h : CLies w c A) {a : Addr} (v : Value) (hne : ∀ ad, A = some ad → ad.block ≠ a.block) : CLies (w.setCell a v) c A := ⟨h.gs.other v fun ad e _ => hne ad e, h.sm⟩
theorem hv_take_get {l : List Nat} {b o : Nat} {w : World} (h : ∀ j u, (hv l)[j]? = some u → w.cell? ⟨b, o + j, none⟩ = some u) (k : Nat) : (∀ j u, (hv (l.take k))[j]? = some u → w.cell? ((⟨b, o, none⟩ : Addr).add j) = some u) ∧ ∀ j u, (hv (l.drop k))[j]? = some u → w.cell? ((⟨b, o + k, none⟩ : Addr).add j) = some u := by
  have ad1 : ∀ o j, ((⟨b, o, none⟩ : Addr).add j) = ⟨b, o + j, none⟩ := fun o j => by
    unfold Addr.add
    by_cases hj : j = 0 <;> simp only [hj, if_true, if_false, Nat.add_zero]
  constructor
  · intro j u hu
    rw [ad1]
    refine h j u ?_
    unfold hv at hu ⊢
    rw [List.map_take, List.getElem?_take] at hu
    split at hu
    · exact hu
    · cases hu
  · intro j u hu
    rw [ad1, Nat.add_assoc]
    refine h (k + j) u ?_
    unfold hv at hu ⊢
    rwa [List.map_drop, List.getElem?_drop] at hu
set_option maxRecDepth 100000 in
set_option maxHeartbeats 16000000 in
theorem groups_law (c : Cr) (A : Option Addr) (n : Nat) (x : At) (p : ALie) (dir : Bool) (q a : Nat) (hq : q < 256) (ha : a < 256) (w : World) (hc : CLies w c A) (h : ALies w x p) (hs : ABg x) (hcap : c.gs.length ≤ n) :
    Calls Try.prog 6 #[c.v A n, x.v p, .bool dir, .int .u8 (q : Nat), .int .u8 (a : Nat)] w fun e w' => e = .returned (.bool true) ∧ Below w.heap.size w w' := by
  obtain ⟨V, hV⟩ : ∃ V, V = (w.alloc (.cells (c.c A n) 25)).alloc (.cells (x.c p) 31) := ⟨_, rfl⟩
  have S0 : Hid (Pb w V c A n x p) := Lib.hid (by rw [hV]; exact Pb.start hc h)
  have HBG := Lib.hid hs
  clear hc h hs
  go_enter Try.func6, Try.ntmps6
  go_upto_region 1 with (fail)
  rw [← hV]
  clear hV
  go_wp2_with (first
    | (refine wpList_load_part rfl 25 (.tmp 5) rfl w.heap.size 0 rfl (c.c A n).toList _ S0.out.cb.all Try.underlying25 rfl cred_size (c.v A n) rfl ?_)
    | (refine wpList_load_part rfl 31 (.tmp 6) rfl (w.heap.size + 1) 0 rfl (x.c p).toList _ S0.out.bt.bt0 Try.underlying31 rfl attr_size (x.v p) rfl ?_))
  refine (glarge_calls c A n x p V S0.out.cl S0.out.al HBG.out).mono ?_
  rintro e w1 ⟨rfl, hb⟩
  have S1 := Lib.hid (S0.out.on hb)
  clear hb S0
  have yc2 := S1.out.cb.c2
  obtain ⟨m, hm⟩ : ∃ m, c.gs.length = m := ⟨_, rfl⟩
  rw [hm] at yc2 hcap
  have HM := Lib.hid hm
  clear hm
  cases hlg : largeG c x
  case true =>
    clear hlg
    go_wp2_with (fail)
    refine (alive_calls _).mono ?_
    rintro e w9 ⟨rfl, hb⟩
    have S9 := Lib.hid (S1.out.on hb)
    clear hb
    go_wp2_with (fail)
    go_ret
    exact ⟨rfl, S9.out.be⟩
  case false =>
  obtain ⟨hs, hks, h60⟩ := largeG_no hlg
  have HS := Lib.hid hs
  have HK := Lib.hid hks
  have H60 := Lib.hid h60
  clear hs hks h60 hlg HBG
  have hm60 : m ≤ 60 := by rw [← HM.out]; exact H60.out
  by_cases hm0 : m = 0
  case pos =>
    have k0 : ((m : Int) == 0) = true := by rw [hm0]; rfl
    clear hm0
    go_wp2_with (fail)
    refine (alive_calls _).mono ?_
    rintro e w9 ⟨rfl, hb⟩
    have S9 := Lib.hid (S1.out.on hb)
    clear hb
    go_wp2_with (fail)
    go_ret
    exact ⟨rfl, S9.out.be⟩
  case neg =>
  have k0 : ((m : Int) == 0) = false := by rw [beq_eq_false_iff_ne]; omega
  obtain ⟨k, hk⟩ : ∃ k, a % m = k := ⟨_, rfl⟩
  have hkm : k < m := by rw [← hk]; exact Nat.mod_lt _ (by omega)
  have e1 : (a : Int) % (m : Int) = (k : Int) := by rw [← hk]; exact (Int.natCast_emod a m).symm
  have e2 : (a : Int).tmod (m : Int) = (k : Int) := by rw [← hk]; exact (Int.ofNat_tmod a m).symm
  clear hk
  obtain ⟨b1, o1, rfl, hlt, hcell⟩ := S1.out.cl.gs.at0 (by rw [hv_length, HM.out]; omega)
  go_upto_region 4 with (fail)
  clear e1 e2
  have HGC : Hid (∀ u, Below w1.heap.size w1 u → ∀ j v, (hv c.gs)[j]? = some v → u.cell? ⟨b1, o1 + j, none⟩ = some v) := Lib.hid (fun u hb j v hj => (Below.cell hb hlt).trans (hcell j v hj))
  have HY2 : Hid (∀ u, Below w1.heap.size w1 u → u.cell? ⟨w.heap.size, 2, none⟩ = some (.slice (some ⟨b1, o1, none⟩) m n)) := Lib.hid (fun u hb => (Below.cell hb S1.out.cb.lt).trans yc2)
  obtain ⟨r, hr⟩ : ∃ r, c.gs[k]? = some r := ⟨_, List.getElem?_eq_getElem (by rw [HM.out]; exact hkm)⟩
  have HR := Lib.hid hr
  clear hlt hcell hr
  go_upto_region 5 with (refine wpList_load_part rfl 25 (.tmp 5) rfl w.heap.size 0 rfl (c.c (some ⟨b1, o1, none⟩) n).toList _ S1.out.cb.all Try.underlying25 rfl cred_size (c.v (some ⟨b1, o1, none⟩) n) rfl ?_)
  obtain ⟨U1, hU⟩ : ∃ U, U = w1.alloc (.cells #[.int .u16 (c.ui : Nat), .int .u16 (c.gi : Nat), .slice (some ⟨b1, o1, none⟩) c.gs.length n, .bool c.hi] 25) := ⟨_, rfl⟩
  have hbU1 : Below w1.heap.size w1 U1 := by rw [hU]; exact (Below.refl _ _).alloc (Nat.le_refl _) _
  have hcb1 : Cb U1 w1.heap.size c (some ⟨b1, o1, none⟩) n := by rw [hU]; exact Cb.new w1 c (some ⟨b1, o1, none⟩) n
  rw [← hU]
  obtain ⟨g1, hg1⟩ : ∃ g, w1.heap.size = g := ⟨_, rfl⟩
  rw [hg1] at hcb1 ⊢
  clear hU
  have hkm1 : (k : Int) ≤ (m : Int) := by omega
  have hkm2 : (k : Int) < (m : Int) := by omega
  have hkn1 : (k : Int) ≤ (n : Int) := by omega
  have hnk : ¬ (n = k) := by omega
  go_upto_region 5 with (fail)
  refine wp_region_tail (R := R4 [.val (.pointer (some ⟨w.heap.size, 2, none⟩)), .val (.slice (some ⟨b1, o1, none⟩) m n), .val (.int .i64 (k : Nat)), .val (.slice (some ⟨b1, o1 + k, none⟩) (m - k) (n - k)), ugS U1.heap.size (c.gs.drop k), .val (.pointer (some ⟨w.heap.size, 2, none⟩)), .val (.slice (some ⟨b1, o1, none⟩) m n), .val (.int .i64 (k : Nat)), .val (.slice (some ⟨b1, o1, none⟩) k n)]) 9 (by kernel_rfl) (by kernel_rfl) (by kernel_rfl) (by kernel_rfl) (by kernel_rfl) (by decide) (by kernel_rfl) (fun i v w w' h k => Sp4.stable h k) (fun i o hi hn => ?heads1) (fun vs u hb hR => ?tail1)
  case heads1 =>
    refine StepsX.at0 (s := 9) ?_ i o hi hn
    refine ⟨fun _ => ?s0, fun _ => ?s1, fun _ => ?s2, fun _ => ?s3, fun _ => ?s4, fun _ => ?s5, fun _ => ?s6, fun _ => ?s7, fun _ => ?s8, fun h => absurd h (by decide), fun h => absurd h (by decide), fun h => absurd h (by decide), trivial⟩
    case s0 =>
      exact st4_val _ rfl (.inl rfl) fun a u hb hA hd => by
        have q0 := ev_of (show a.eval (.tmp 5) = .pointer (some ⟨w.heap.size, 0, none⟩) from hA.eval 5 rfl)
        unfold execOp
        simp [go_sem, q0]
    case s1 =>
      exact st4_val _ rfl (.inl rfl) fun a u hb hA hd => by
        have q0 := ev_of (show a.eval (.tmp 33) = .pointer (some ⟨w.heap.size, 2, none⟩) from hd 0 33 rfl rfl _ rfl)
        have y0 := HY2.out u (hbU1.trans (Below.mono hb hbU1.size))
        unfold execOp
        simp [go_sem, q0, y0]
    case s2 =>
      exact st4_val _ rfl (.inl rfl) fun a u hb hA hd => by
        have q0 := ev_of (show a.eval (.tmp 11) = .int .i64 (k : Nat) from hA.eval 11 rfl)
        unfold execOp
        simp [go_sem, q0]
    case s3 =>
      exact st4_val _ rfl (.inl rfl) fun a u hb hA hd => by
        have q0 := ev_of (show a.eval (.tmp 34) = .slice (some ⟨b1, o1, none⟩) m n from hd 1 34 rfl rfl _ rfl)
        have q1 := ev_of (show a.eval (.tmp 35) = .int .i64 (k : Nat) from hd 2 35 rfl rfl _ rfl)
        unfold execOp
        simp [go_sem, q0, q1, hkm1, hnk]
    case s4 =>
      refine st4_mk _ rfl (.inl rfl) fun a u hb hA hd => ?_
      have q0 := (show a.eval (.tmp 36) = .slice (some ⟨b1, o1 + k, none⟩) (m - k) (n - k) from hd 3 36 rfl rfl _ rfl)
      obtain ⟨B, cB, w', r1, r2, r3, r4⟩ := run_ucl ⟨b1, o1 + k, none⟩ (c.gs.drop k) (n - k) u 23 (hv_take_get (HGC.out u (hbU1.trans (Below.mono hb hbU1.size))) k).2 (by rw [List.length_drop, HM.out]; omega) (by rw [List.length_drop, HM.out]; omega)
      refine ⟨_, w', exec_append (.const (.slice none 0 0)) (.tmp 36) 23 rfl (.slice none 0 0) (.slice (some ⟨b1, o1 + k, none⟩) (m - k) (n - k)) _ rfl q0 (by rw [List.length_drop, HM.out] at r1; exact r1), ⟨B, cB, by rw [List.length_drop, HM.out], r2, fun ad e => Nat.le_trans hb.size (r4 ad e)⟩, r3⟩
    case s5 =>
      exact st4_val _ rfl (.inl rfl) fun a u hb hA hd => by
        have q0 := ev_of (show a.eval (.tmp 5) = .pointer (some ⟨w.heap.size, 0, none⟩) from hA.eval 5 rfl)
        unfold execOp
        simp [go_sem, q0]
    case s6 =>
      exact st4_val _ rfl (.inl rfl) fun a u hb hA hd => by
        have q0 := ev_of (show a.eval (.tmp 38) = .pointer (some ⟨w.heap.size, 2, none⟩) from hd 5 38 rfl rfl _ rfl)
        have y0 := HY2.out u (hbU1.trans (Below.mono hb hbU1.size))
        unfold execOp
        simp [go_sem, q0, y0]
    case s7 =>
      exact st4_val _ rfl (.inl rfl) fun a u hb hA hd => by
        have q0 := ev_of (show a.eval (.tmp 11) = .int .i64 (k : Nat) from hA.eval 11 rfl)
        unfold execOp
        simp [go_sem, q0]
    case s8 =>
      exact st4_val _ rfl (.inl rfl) fun a u hb hA hd => by
        have q0 := ev_of (show a.eval (.tmp 39) = .slice (some ⟨b1, o1, none⟩) m n from hd 6 39 rfl rfl _ rfl)
        have q1 := ev_of (show a.eval (.tmp 40) = .int .i64 (k : Nat) from hd 7 40 rfl rfl _ rfl)
        unfold execOp
        simp [go_sem, q0, q1, hkn1]
  case tail1 =>
    obtain ⟨B, cB, e4, hO, hF⟩ := (show ∃ B cB, vs 4 = .slice B (c.gs.drop k).length cB ∧ OwnR u 22 1 B (c.gs.drop k).length cB (hv (c.gs.drop k)) ∧ ∀ ad, B = some ad → U1.heap.size ≤ ad.block from hR 4 (by decide))
    have e8 : vs 8 = .slice (some ⟨b1, o1, none⟩) k n := hR 8 (by decide)
    obtain ⟨Dd, cd, wt, hrun, hcel, hge, hbt⟩ := run_uapp U1.heap.size u 23 B cB (c.gs.drop k) (c.gs.take k) ⟨b1, o1, none⟩ n hO hF hb.size (by rw [List.length_drop, HM.out]; omega) (hv_take_get (HGC.out u (hbU1.trans (Below.mono hb hbU1.size))) k).1 (by rw [List.length_drop, HM.out]; omega) (by rw [List.length_take, HM.out]; omega)
    rw [show (c.gs.take k).length = k by rw [List.length_take, HM.out]; omega] at hrun
    have HBX : Below U1.heap.size U1 u := hb
    have hbt2 := hbt U1 HBX
    have zc := (hcb1.on hbt2).c2
    have zf := (hcb1.on hbt2).frozen 2
    obtain ⟨W5, hWn⟩ : ∃ W, W = wt.setCell ⟨g1, 2, none⟩ (.slice Dd (c.gs.drop k ++ c.gs.take k).length cd) := ⟨_, rfl⟩
    have HCd : Hid (Cb W5 g1 (regroup c (c.gs.drop k ++ c.gs.take k)) Dd cd) := Lib.hid (by rw [hWn]; exact (hcb1.on hbt2).turn (c.gs.drop k ++ c.gs.take k) Dd cd)
    have HLd : Hid (CLies W5 (regroup c (c.gs.drop k ++ c.gs.take k)) Dd) := Lib.hid (by
      rw [hWn]
      refine CLies.other ⟨hcel, ?_⟩ _ fun ad e => ?_
      · show (c.gs.drop k ++ c.gs.take k).length ≤ 9223372036854775807
        have := HM.out
        rw [List.length_append, List.length_drop, List.length_take]
        omega
      · have := hge ad e
        have := hcb1.lt
        show ad.block ≠ g1
        omega)
    have hbn : Below w1.heap.size w1 W5 := by
      rw [hWn]
      exact (hbU1.trans (hbt2.mono hbU1.size)).setCell (by show w1.heap.size ≤ g1; omega) _
    have S5 := Lib.hid (S1.out.on hbn)
    simp only [putsFrom, Act.put, List.setIfInBounds_toArray, List.set_cons_succ, List.set_cons_zero, List.take_succ_cons, List.take_zero, List.drop_succ_cons, List.drop_zero, e4, e8]
    generalize vs 0 = z0
    generalize vs 1 = z1
    generalize vs 2 = z2
    generalize vs 3 = z3
    generalize vs 5 = z5
    generalize vs 6 = z6
    generalize vs 7 = z7
    have HB5 := Lib.hid hbn
    clear hcel hge hbt hbt2 hO hF hb hR e4 e8 hcb1 hbn hg1 HBX hbU1 S1 yc2
    obtain ⟨ld, hld⟩ : ∃ m, (c.gs.drop k ++ c.gs.take k).length = m := ⟨_, rfl⟩
    obtain ⟨lk, hlk⟩ : ∃ m, (c.gs.drop k).length = m := ⟨_, rfl⟩
    rw [hld] at hrun hWn
    rw [hlk] at hrun ⊢
    clear hld hlk
    go_upto_region 6 with (at_builtin; refine Lib.wpList_append_run _ rfl (.tmp 37) (.tmp 41) 23 23 rfl _ _ rfl rfl _ _ (hrun) ?_)
    rw [← hWn]
    clear hrun hWn zc zf
    go_upto_region 7 with (refine wpList_load_part rfl 25 (.tmp 5) rfl w.heap.size 0 rfl (c.c (some ⟨b1, o1, none⟩) n).toList _ S5.out.cb.all Try.underlying25 rfl cred_size (c.v (some ⟨b1, o1, none⟩) n) rfl ?_)
    obtain ⟨U2, hU⟩ : ∃ U, U = W5.alloc (.cells #[.int .u16 (c.ui : Nat), .int .u16 (c.gi : Nat), .slice (some ⟨b1, o1, none⟩) c.gs.length n, .bool c.hi] 25) := ⟨_, rfl⟩
    have hbU2 : Below W5.heap.size W5 U2 := by rw [hU]; exact (Below.refl _ _).alloc (Nat.le_refl _) _
    have hcb2 : Cb U2 W5.heap.size c (some ⟨b1, o1, none⟩) n := by rw [hU]; exact Cb.new W5 c (some ⟨b1, o1, none⟩) n
    rw [← hU]
    obtain ⟨g2, hg2⟩ : ∃ g, W5.heap.size = g := ⟨_, rfl⟩
    rw [hg2] at hcb2 ⊢
    clear hU
    have hr := HR.out
    refine wp_region_tail (R := R4 [.val (.pointer (some ⟨w.heap.size, 2, none⟩)), .val (.slice (some ⟨b1, o1, none⟩) m n), ugS U2.heap.size c.gs, .val (.pointer (some ⟨w.heap.size, 2, none⟩)), .val (.slice (some ⟨b1, o1, none⟩) m n), .val (.int .i64 (k : Nat)), .val (.pointer (some ⟨b1, o1 + k, none⟩)), .val (.int .u16 (r : Nat)), u1S r]) 9 (by kernel_rfl) (by kernel_rfl) (by kernel_rfl) (by kernel_rfl) (by kernel_rfl) (by decide) (by kernel_rfl) (fun i v w w' h k => Sp4.stable h k) (fun i o hi hn => ?heads2) (fun vs u hb hR => ?tail2)
    case heads2 =>
      refine StepsX.at0 (s := 9) ?_ i o hi hn
      refine ⟨fun _ => ?s0, fun _ => ?s1, fun _ => ?s2, fun _ => ?s3, fun _ => ?s4, fun _ => ?s5, fun _ => ?s6, fun _ => ?s7, fun _ => ?s8, fun h => absurd h (by decide), fun h => absurd h (by decide), fun h => absurd h (by decide), trivial⟩
      case s0 =>
        exact st4_val _ rfl (.inl rfl) fun a u hb hA hd => by
          have q0 := ev_of (show a.eval (.tmp 5) = .pointer (some ⟨w.heap.size, 0, none⟩) from hA.eval 5 rfl)
          unfold execOp
          simp [go_sem, q0]
      case s1 =>
        exact st4_val _ rfl (.inl rfl) fun a u hb hA hd => by
          have q0 := ev_of (show a.eval (.tmp 45) = .pointer (some ⟨w.heap.size, 2, none⟩) from hd 0 45 rfl rfl _ rfl)
          have y0 := HY2.out u (HB5.out.trans (hbU2.trans (Below.mono hb hbU2.size) |>.mono HB5.out.size))
          unfold execOp
          simp [go_sem, q0, y0]
      case s2 =>
        refine st4_mk _ rfl (.inl rfl) fun a u hb hA hd => ?_
        have q0 := (show a.eval (.tmp 46) = .slice (some ⟨b1, o1, none⟩) m n from hd 1 46 rfl rfl _ rfl)
        obtain ⟨B, cB, w', r1, r2, r3, r4⟩ := run_ucl ⟨b1, o1, none⟩ c.gs n u 23 (hv_add (HGC.out u (HB5.out.trans (hbU2.trans (Below.mono hb hbU2.size) |>.mono HB5.out.size)))) (by rw [HM.out]; omega) (by rw [HM.out]; omega)
        refine ⟨_, w', exec_append (.const (.slice none 0 0)) (.tmp 46) 23 rfl (.slice none 0 0) (.slice (some ⟨b1, o1, none⟩) m n) _ rfl q0 (by rw [HM.out] at r1; exact r1), ⟨B, cB, by rw [HM.out], r2, fun ad e => Nat.le_trans hb.size (r4 ad e)⟩, r3⟩
      case s3 =>
        exact st4_val _ rfl (.inl rfl) fun a u hb hA hd => by
          have q0 := ev_of (show a.eval (.tmp 5) = .pointer (some ⟨w.heap.size, 0, none⟩) from hA.eval 5 rfl)
          unfold execOp
          simp [go_sem, q0]
      case s4 =>
        exact st4_val _ rfl (.inl rfl) fun a u hb hA hd => by
          have q0 := ev_of (show a.eval (.tmp 48) = .pointer (some ⟨w.heap.size, 2, none⟩) from hd 3 48 rfl rfl _ rfl)
          have y0 := HY2.out u (HB5.out.trans (hbU2.trans (Below.mono hb hbU2.size) |>.mono HB5.out.size))
          unfold execOp
          simp [go_sem, q0, y0]
      case s5 =>
        exact st4_val _ rfl (.inl rfl) fun a u hb hA hd => by
          have q0 := ev_of (show a.eval (.tmp 11) = .int .i64 (k : Nat) from hA.eval 11 rfl)
          unfold execOp
          simp [go_sem, q0]
      case s6 =>
        exact st4_val _ rfl (.inl rfl) fun a u hb hA hd => by
          have q0 := ev_of (show a.eval (.tmp 49) = .slice (some ⟨b1, o1, none⟩) m n from hd 4 49 rfl rfl _ rfl)
          have q1 := ev_of (show a.eval (.tmp 50) = .int .i64 (k : Nat) from hd 5 50 rfl rfl _ rfl)
          unfold execOp
          simp [go_sem, q0, q1, hkm2]
      case s7 =>
        exact st4_val _ rfl (.inl rfl) fun a u hb hA hd => by
          have q0 := ev_of (show a.eval (.tmp 51) = .pointer (some ⟨b1, o1 + k, none⟩) from hd 6 51 rfl rfl _ rfl)
          have y0 := (HGC.out u (HB5.out.trans (hbU2.trans (Below.mono hb hbU2.size) |>.mono HB5.out.size)) k _ (hv_get hr))
          unfold execOp
          simp [go_sem, q0, y0]
      case s8 =>
        refine st4_mk _ rfl (.inl rfl) fun a u hb hA hd => ?_
        have q0 := ev_of (show a.eval (.tmp 52) = .int .u16 (r : Nat) from hd 7 52 rfl rfl _ rfl)
        refine ⟨.slice (some ⟨u.heap.size, 0, none⟩) 1 1, u.alloc (.cells #[.int .u16 (r : Nat)] 22), ?_, ⟨u.heap.size, rfl, heap_alloc_new u _⟩, (Below.refl _ _).alloc (Nat.le_refl _) _⟩
        unfold execOp
        simp [go_sem, q0]
    case tail2 =>
      obtain ⟨B, cB, e2, hO, hF⟩ := (show ∃ B cB, vs 2 = .slice B c.gs.length cB ∧ OwnR u 22 1 B c.gs.length cB (hv c.gs) ∧ ∀ ad, B = some ad → U2.heap.size ≤ ad.block from hR 2 (by decide))
      obtain ⟨gx, e8, hgx⟩ := (show ∃ g, vs 8 = .slice (some ⟨g, 0, none⟩) 1 1 ∧ u.heap[g]? = some (.cells #[.int .u16 (r : Nat)] 22 (0, 0)) from hR 8 (by decide))
      obtain ⟨Df, cf, wt, hrun, hcel, hge, hbt⟩ := run_uapp U2.heap.size u 23 B cB c.gs [r] ⟨gx, 0, none⟩ 1 hO hF hb.size (by rw [HM.out]; omega) (fun j v hj => by
        rw [add_zero_block, cell_of_row u gx j _ 22 (0, 0) hgx]
        simpa [hv] using hj) (by rw [HM.out]; omega) (by simp)
      have HBX : Below U2.heap.size U2 u := hb
      have hbt2 := hbt U2 HBX
      have zc := (hcb2.on hbt2).c2
      have zf := (hcb2.on hbt2).frozen 2
      obtain ⟨W7, hWn⟩ : ∃ W, W = wt.setCell ⟨g2, 2, none⟩ (.slice Df (c.gs ++ [r]).length cf) := ⟨_, rfl⟩
      have HCf : Hid (Cb W7 g2 (regroup c (c.gs ++ [r])) Df cf) := Lib.hid (by rw [hWn]; exact (hcb2.on hbt2).turn (c.gs ++ [r]) Df cf)
      have HLf : Hid (CLies W7 (regroup c (c.gs ++ [r])) Df) := Lib.hid (by
        rw [hWn]
        refine CLies.other ⟨hcel, ?_⟩ _ fun ad e => ?_
        · show (c.gs ++ [r]).length ≤ 9223372036854775807
          have := HM.out
          rw [List.length_append]
          show c.gs.length + 1 ≤ _
          omega
        · have := hge ad e
          have := hcb2.lt
          show ad.block ≠ g2
          omega)
      have hbn : Below W5.heap.size W5 W7 := by
        rw [hWn]
        exact (hbU2.trans (hbt2.mono hbU2.size)).setCell (by show W5.heap.size ≤ g2; omega) _
      have S7 := Lib.hid (S5.out.on hbn)
      have HCd7 := Lib.hid (HCd.out.on hbn)
      have HLd7 := Lib.hid (HLd.out.below hbn)
      simp only [putsFrom, Act.put, List.setIfInBounds_toArray, List.set_cons_succ, List.set_cons_zero, List.take_succ_cons, List.take_zero, List.drop_succ_cons, List.drop_zero, e2, e8]
      generalize vs 0 = z0
      generalize vs 1 = z1
      generalize vs 3 = z3
      generalize vs 4 = z4
      generalize vs 5 = z5
      generalize vs 6 = z6
      generalize vs 7 = z7
      clear hcel hge hbt hbt2 hO hF hb hR e2 e8 hcb2 hg2 HBX hbU2 S5 HCd HLd hgx
      have HB7 := Lib.hid (HB5.out.trans (hbn.mono HB5.out.size))
      clear hbn HB5
      obtain ⟨lf, hlf⟩ : ∃ m, (c.gs ++ [r]).length = m := ⟨_, rfl⟩
      rw [hlf] at hrun hWn
      clear hlf
      go_upto_region 8 with (at_builtin; refine Lib.wpList_append_run _ rfl (.tmp 47) (.tmp 53) 23 23 rfl _ _ rfl rfl _ _ (hrun) ?_)
      rw [← hWn]
      clear hrun hWn zc zf
      go_upto_region 9 with (refine wpList_load_part rfl 25 (.tmp 5) rfl w.heap.size 0 rfl (c.c (some ⟨b1, o1, none⟩) n).toList _ S7.out.cb.all Try.underlying25 rfl cred_size (c.v (some ⟨b1, o1, none⟩) n) rfl ?_)
      obtain ⟨U3, hU⟩ : ∃ U, U = W7.alloc (.cells #[.int .u16 (c.ui : Nat), .int .u16 (c.gi : Nat), .slice (some ⟨b1, o1, none⟩) c.gs.length n, .bool c.hi] 25) := ⟨_, rfl⟩
      have hbU3 : Below W7.heap.size W7 U3 := by rw [hU]; exact (Below.refl _ _).alloc (Nat.le_refl _) _
      have hcb3 : Cb U3 W7.heap.size c (some ⟨b1, o1, none⟩) n := by rw [hU]; exact Cb.new W7 c (some ⟨b1, o1, none⟩) n
      rw [← hU]
      obtain ⟨g3, hg3⟩ : ∃ g, W7.heap.size = g := ⟨_, rfl⟩
      rw [hg3] at hcb3 ⊢
      clear hU
      obtain ⟨Dh, ch, wt, hrun, hcel, hge, hbt⟩ := run_uapp U3.heap.size (U3.alloc (.cells #[.int .u16 (c.gi : Nat)] 22)) 23 (some ⟨U3.heap.size, 0, none⟩) 1 [c.gi] c.gs ⟨b1, o1, none⟩ n ⟨rfl, Nat.le_refl _, by unfold maxLen; simp, .inr ⟨U3.heap.size, _, rfl, heap_alloc_new U3 _, by simp, rfl⟩⟩ (fun a e => by cases e; exact Nat.le_refl _) (by simp) (by simp)
        (hv_add (HGC.out _ (HB7.out.trans ((hbU3.trans (((Below.refl _ U3).alloc (Nat.le_refl _) _).mono hbU3.size)).mono HB7.out.size)))) (by simp) (by rw [HM.out]; omega)
      rw [HM.out] at hrun
      have HBX : Below U3.heap.size U3 (U3.alloc (.cells #[.int .u16 (c.gi : Nat)] 22)) := (Below.refl _ _).alloc (Nat.le_refl _) _
      have hbt2 := hbt U3 HBX
      have zc := (hcb3.on hbt2).c2
      have zf := (hcb3.on hbt2).frozen 2
      obtain ⟨W9, hWn⟩ : ∃ W, W = wt.setCell ⟨g3, 2, none⟩ (.slice Dh ([c.gi] ++ c.gs).length ch) := ⟨_, rfl⟩
      have HCh : Hid (Cb W9 g3 (regroup c ([c.gi] ++ c.gs)) Dh ch) := Lib.hid (by rw [hWn]; exact (hcb3.on hbt2).turn ([c.gi] ++ c.gs) Dh ch)
      have HLh : Hid (CLies W9 (regroup c ([c.gi] ++ c.gs)) Dh) := Lib.hid (by
        rw [hWn]
        refine CLies.other ⟨hcel, ?_⟩ _ fun ad e => ?_
        · show ([c.gi] ++ c.gs).length ≤ 9223372036854775807
          have := HM.out
          rw [List.length_append]
          show 1 + c.gs.length ≤ _
          omega
        · have := hge ad e
          have := hcb3.lt
          show ad.block ≠ g3
          omega)
      have hbn : Below W7.heap.size W7 W9 := by
        rw [hWn]
        exact (hbU3.trans (hbt2.mono hbU3.size)).setCell (by show W7.heap.size ≤ g3; omega) _
      have S9 := Lib.hid (S7.out.on hbn)
      have HCd9 := Lib.hid (HCd7.out.on hbn)
      have HLd9 := Lib.hid (HLd7.out.below hbn)
      have HCf9 := Lib.hid (HCf.out.on hbn)
      have HLf9 := Lib.hid (HLf.out.below hbn)
      have yb1 : U3.cell? ⟨w.heap.size, 1, none⟩ = some (.int .u16 (c.gi : Nat)) := (S7.out.cb.on hbU3).c1
      have yb2 : U3.cell? ⟨w.heap.size, 2, none⟩ = some (.slice (some ⟨b1, o1, none⟩) m n) := by rw [← HM.out]; exact (S7.out.cb.on hbU3).c2
      have HLT : Hid (w.heap.size < U3.heap.size) := Lib.hid (S7.out.cb.on hbU3).lt
      have yb2' : (U3.alloc (.cells #[.int .u16 (c.gi : Nat)] 22)).cell? ⟨w.heap.size, 2, none⟩ = some (.slice (some ⟨b1, o1, none⟩) m n) := (Below.cell HBX HLT.out).trans yb2
      clear hcel hge hbt hbt2 hcb3 hg3 HBX hbU3 hbn S7 HCd7 HLd7 HCf HLf HB7
      obtain ⟨lh, hlh⟩ : ∃ m, ([c.gi] ++ c.gs).length = m := ⟨_, rfl⟩
      rw [hlh] at hrun hWn
      clear hlh
      go_upto_region 10 with (at_builtin; refine Lib.wpList_append_run _ rfl (.tmp 59) (.tmp 61) 23 23 rfl _ _ rfl rfl _ _ (hrun) ?_)
      rw [← hWn]
      clear hrun hWn zc zf yb1 yb2 yb2' HLT
      have hM := HM.out
      have gd : ∀ g, inB c g = inB (regroup c (c.gs.drop k ++ c.gs.take k)) g := fun g => inB_perm (c := c) (d := regroup c (c.gs.drop k ++ c.gs.take k)) rfl (fun g => (any_turn c.gs k g).symm) g
      have gf : ∀ g, inB c g = inB (regroup c (c.gs ++ [r])) g := fun g => inB_perm (c := c) (d := regroup c (c.gs ++ [r])) rfl (fun g => (any_twice c.gs HR.out g).symm) g
      have gh : ∀ g, inB c g = inB (regroup c ([c.gi] ++ c.gs)) g := fun g => (inB_self c g).symm
      have nd : (c.gs.drop k ++ c.gs.take k).length = m := by rw [List.length_append, List.length_drop, List.length_take]; omega
      have nf : (c.gs ++ [r]).length = m + 1 := by rw [List.length_append, hM]; rfl
      have nh : ([c.gi] ++ c.gs).length = m + 1 := by rw [List.length_append, hM]; show 1 + m = m + 1; omega
      obtain ⟨d, hd⟩ : ∃ d, regroup c (c.gs.drop k ++ c.gs.take k) = d := ⟨_, rfl⟩
      obtain ⟨f, hf⟩ : ∃ d, regroup c (c.gs ++ [r]) = d := ⟨_, rfl⟩
      obtain ⟨h, hh⟩ : ∃ d, regroup c ([c.gi] ++ c.gs) = d := ⟨_, rfl⟩
      have ud : c.ui = d.ui := by rw [← hd]; rfl
      have uf : c.ui = f.ui := by rw [← hf]; rfl
      have uh : c.ui = h.ui := by rw [← hh]; rfl
      replace nd : d.gs.length = m := by rw [← hd]; exact nd
      replace nf : f.gs.length = m + 1 := by rw [← hf]; exact nf
      replace nh : h.gs.length = m + 1 := by rw [← hh]; exact nh
      rw [hd] at HCd9 HLd9 gd
      rw [hf] at HCf9 HLf9 gf
      rw [hh] at HCh HLh gh
      clear hd hf hh
      obtain ⟨tm, htm⟩ : ∃ m, mayG c x dir q = m := ⟨_, rfl⟩
      obtain ⟨mo, hmo⟩ : ∃ m, mostG c x dir = m := ⟨_, rfl⟩
      have HMC : Hid (∀ u, CLies u c (some ⟨b1, o1, none⟩) → ALies u x p → Calls Try.prog 13 #[c.v (some ⟨b1, o1, none⟩) n, x.v p, .bool dir, .int .u8 (q : Nat)] u fun e w' => e = .returned (.bool tm) ∧ Below u.heap.size u w') := Lib.hid (fun u hc hl => htm ▸ may_calls c _ n x p dir q u hc hl HS.out hq)
      have HOC : Hid (∀ u, CLies u c (some ⟨b1, o1, none⟩) → ALies u x p → Calls Try.prog 16 #[c.v (some ⟨b1, o1, none⟩) n, x.v p, .bool dir] u fun e w' => e = .returned (.int .u8 (mo : Nat)) ∧ Below u.heap.size u w') := Lib.hid (fun u hc hl => hmo ▸ most_calls c _ n x p dir u hc hl HS.out)
      have HMD : Hid (∀ u, CLies u d Dd → ALies u x p → Calls Try.prog 13 #[Cr.v d Dd cd, x.v p, .bool dir, .int .u8 (q : Nat)] u fun e w' => e = .returned (.bool tm) ∧ Below u.heap.size u w') := Lib.hid (fun u hc hl => by
        have t := may_calls d Dd cd x p dir q u hc hl HS.out hq
        rwa [← may_groups x dir q ud gd (by rw [nd, hM]), htm] at t)
      have HOD : Hid (∀ u, CLies u d Dd → ALies u x p → Calls Try.prog 16 #[Cr.v d Dd cd, x.v p, .bool dir] u fun e w' => e = .returned (.int .u8 (mo : Nat)) ∧ Below u.heap.size u w') := Lib.hid (fun u hc hl => by
        have t := most_calls d Dd cd x p dir u hc hl HS.out
        rwa [← most_groups x dir ud gd (by rw [nd, hM]), hmo] at t)
      have HMF : Hid (m + 1 ≤ 4 → ∀ u, CLies u f Df → ALies u x p → Calls Try.prog 13 #[Cr.v f Df cf, x.v p, .bool dir, .int .u8 (q : Nat)] u fun e w' => e = .returned (.bool tm) ∧ Below u.heap.size u w') := Lib.hid (fun h4 u hc hl => by
        have t := may_calls f Df cf x p dir q u hc hl HS.out hq
        rwa [← may_groups x dir q uf gf (by rw [nf, hM]; omega), htm] at t)
      have HMH : Hid (m + 1 ≤ 4 → ∀ u, CLies u h Dh → ALies u x p → Calls Try.prog 13 #[Cr.v h Dh ch, x.v p, .bool dir, .int .u8 (q : Nat)] u fun e w' => e = .returned (.bool tm) ∧ Below u.heap.size u w') := Lib.hid (fun h4 u hc hl => by
        have t := may_calls h Dh ch x p dir q u hc hl HS.out hq
        rwa [← may_groups x dir q uh gh (by rw [nh, hM]; omega), htm] at t)
      have HCK : Hid (chkN f = if m + 1 ≤ 4 then 0 else 622) := Lib.hid (by unfold chkN; rw [nf])
      clear ud uf uh gd gf gh nd nf nh htm hmo hM
      go_wp2_with (first
        | (refine wpList_load_part rfl 25 (.tmp 5) rfl w.heap.size 0 rfl (Cr.c c (some ⟨b1, o1, none⟩) n).toList _ S9.out.cb.all Try.underlying25 rfl cred_size (Cr.v c (some ⟨b1, o1, none⟩) n) rfl ?_)
        | (refine wpList_load_part rfl 31 (.tmp 6) rfl (w.heap.size + 1) 0 rfl (x.c p).toList _ S9.out.bt.bt0 Try.underlying31 rfl attr_size (x.v p) rfl ?_))
      refine (HMC.out W9 S9.out.cl S9.out.al).mono ?_
      rintro e w10 ⟨rfl, hb⟩
      have S10 := Lib.hid (S9.out.on hb)
      have HCd10 := Lib.hid (HCd9.out.on hb)
      have HLd10 := Lib.hid (HLd9.out.below hb)
      have HCf10 := Lib.hid (HCf9.out.on hb)
      have HLf10 := Lib.hid (HLf9.out.below hb)
      have HCh10 := Lib.hid (HCh.out.on hb)
      have HLh10 := Lib.hid (HLh.out.below hb)
      clear hb S9 HCd9 HLd9 HCf9 HLf9 HCh HLh HMC
      go_upto_region 11 with (fail)
      refine wp_region4 [.val (Cr.v d Dd cd), .val (x.v p), .val (.bool dir), .val (.int .u8 (q : Nat)), .val (.bool tm), .val (.bool tm), .val (.bool false), .val (.bool false), .val (Cr.v d Dd cd), .val (x.v p), .val (.bool dir), .val (.int .u8 (mo : Nat)), .val (c.v (some ⟨b1, o1, none⟩) n), .val (x.v p), .val (.bool dir), .val (.int .u8 (mo : Nat)), .val (.bool false), .val (.bool false)] (by kernel_rfl) (by kernel_rfl) (by kernel_rfl) ?steps11 ?rest11
      case steps11 =>
        refine ⟨?t0, ?t1, ?t2, ?t3, ?t4, ?t5, ?t6, ?t7, ?t8, ?t9, ?t10, ?t11, ?t12, ?t13, ?t14, ?t15, ?t16, ?t17, trivial⟩
        case t0 =>
          exact st4_val _ rfl (.inl rfl) fun a u hb hA hd => run_loadC rfl g1 d Dd cd (hA.eval 12 rfl) (HCd10.out.on hb)
        case t1 =>
          exact st4_val _ rfl (.inl rfl) fun a u hb hA hd => run_loadT rfl (w.heap.size + 1) x p (hA.eval 6 rfl) (S10.out.bt.on hb)
        case t2 =>
          exact st4_val _ rfl (.inl rfl) fun a u hb hA hd => by
            have q0 := ev_of (show a.eval (.tmp 2) = .bool dir from hA.eval 2 rfl)
            unfold execOp
            simp [go_sem, q0]
        case t3 =>
          exact st4_val _ rfl (.inl rfl) fun a u hb hA hd => by
            have q0 := ev_of (show a.eval (.tmp 3) = .int .u8 (q : Nat) from hA.eval 3 rfl)
            unfold execOp
            simp [go_sem, q0]
        case t4 =>
          refine st4_call _ rfl (.inl rfl) 13 fun a u hb hA hd => ?_
          have q0 := ev_of (show a.eval (.tmp 69) = Cr.v d Dd cd from hd 0 69 rfl rfl _ rfl)
          have q1 := ev_of (show a.eval (.tmp 70) = x.v p from hd 1 70 rfl rfl _ rfl)
          have q2 := ev_of (show a.eval (.tmp 71) = .bool dir from hd 2 71 rfl rfl _ rfl)
          have q3 := ev_of (show a.eval (.tmp 72) = .int .u8 (q : Nat) from hd 3 72 rfl rfl _ rfl)
          refine ⟨#[Cr.v d Dd cd, x.v p, .bool dir, .int .u8 (q : Nat)], ?_, (HMD.out u (HLd10.out.below hb) (S10.out.al.below hb)).mono ?_⟩
          · unfold execOp
            simp [go_sem, q0, q1, q2, q3]
          · rintro e w' ⟨rfl, hb'⟩
            exact ⟨_, rfl, rfl, hb'⟩
        case t5 =>
          exact st4_val _ rfl (.inl rfl) fun a u hb hA hd => by
            have q0 := ev_of (show a.eval (.tmp 15) = .bool tm from hA.eval 15 rfl)
            unfold execOp
            simp [go_sem, q0]
        case t6 =>
          exact st4_val _ rfl (.inl rfl) fun a u hb hA hd => by
            have q0 := ev_of (show a.eval (.tmp 73) = .bool tm from hd 4 73 rfl rfl _ rfl)
            have q1 := ev_of (show a.eval (.tmp 74) = .bool tm from hd 5 74 rfl rfl _ rfl)
            unfold execOp
            simp [go_sem, q0, q1]
        case t7 =>
          exact st4_move 6 75 rfl (.inl rfl) rfl rfl rfl
        case t8 =>
          exact st4_val _ rfl (.inr ⟨7, 76, false, rfl, rfl, rfl, rfl⟩) fun a u hb hA hd => run_loadC rfl g1 d Dd cd (hA.eval 12 rfl) (HCd10.out.on hb)
        case t9 =>
          exact st4_val _ rfl (.inr ⟨7, 76, false, rfl, rfl, rfl, rfl⟩) fun a u hb hA hd => run_loadT rfl (w.heap.size + 1) x p (hA.eval 6 rfl) (S10.out.bt.on hb)
        case t10 =>
          exact st4_val _ rfl (.inr ⟨7, 76, false, rfl, rfl, rfl, rfl⟩) fun a u hb hA hd => by
            have q0 := ev_of (show a.eval (.tmp 2) = .bool dir from hA.eval 2 rfl)
            unfold execOp
            simp [go_sem, q0]
        case t11 =>
          refine st4_call _ rfl (.inr ⟨7, 76, false, rfl, rfl, rfl, rfl⟩) 16 fun a u hb hA hd => ?_
          have q0 := ev_of (show a.eval (.tmp 77) = Cr.v d Dd cd from hd 8 77 rfl rfl _ rfl)
          have q1 := ev_of (show a.eval (.tmp 78) = x.v p from hd 9 78 rfl rfl _ rfl)
          have q2 := ev_of (show a.eval (.tmp 79) = .bool dir from hd 10 79 rfl rfl _ rfl)
          refine ⟨#[Cr.v d Dd cd, x.v p, .bool dir], ?_, (HOD.out u (HLd10.out.below hb) (S10.out.al.below hb)).mono ?_⟩
          · unfold execOp
            simp [go_sem, q0, q1, q2]
          · rintro e w' ⟨rfl, hb'⟩
            exact ⟨_, rfl, rfl, hb'⟩
        case t12 =>
          exact st4_val _ rfl (.inr ⟨7, 76, false, rfl, rfl, rfl, rfl⟩) fun a u hb hA hd => run_loadC rfl w.heap.size c (some ⟨b1, o1, none⟩) n (hA.eval 5 rfl) (S10.out.cb.on hb)
        case t13 =>
          exact st4_val _ rfl (.inr ⟨7, 76, false, rfl, rfl, rfl, rfl⟩) fun a u hb hA hd => run_loadT rfl (w.heap.size + 1) x p (hA.eval 6 rfl) (S10.out.bt.on hb)
        case t14 =>
          exact st4_val _ rfl (.inr ⟨7, 76, false, rfl, rfl, rfl, rfl⟩) fun a u hb hA hd => by
            have q0 := ev_of (show a.eval (.tmp 2) = .bool dir from hA.eval 2 rfl)
            unfold execOp
            simp [go_sem, q0]
        case t15 =>
          refine st4_call _ rfl (.inr ⟨7, 76, false, rfl, rfl, rfl, rfl⟩) 16 fun a u hb hA hd => ?_
          have q0 := ev_of (show a.eval (.tmp 81) = c.v (some ⟨b1, o1, none⟩) n from hd 12 81 rfl rfl _ rfl)
          have q1 := ev_of (show a.eval (.tmp 82) = x.v p from hd 13 82 rfl rfl _ rfl)
          have q2 := ev_of (show a.eval (.tmp 83) = .bool dir from hd 14 83 rfl rfl _ rfl)
          refine ⟨#[c.v (some ⟨b1, o1, none⟩) n, x.v p, .bool dir], ?_, (HOC.out u (S10.out.cl.below hb) (S10.out.al.below hb)).mono ?_⟩
          · unfold execOp
            simp [go_sem, q0, q1, q2]
          · rintro e w' ⟨rfl, hb'⟩
            exact ⟨_, rfl, rfl, hb'⟩
        case t16 =>
          exact st4_val _ rfl (.inr ⟨7, 76, false, rfl, rfl, rfl, rfl⟩) fun a u hb hA hd => by
            have q0 := ev_of (show a.eval (.tmp 80) = .int .u8 (mo : Nat) from hd 11 80 rfl rfl _ rfl)
            have q1 := ev_of (show a.eval (.tmp 84) = .int .u8 (mo : Nat) from hd 15 84 rfl rfl _ rfl)
            unfold execOp
            simp [go_sem, q0, q1]
        case t17 =>
          exact st4_val _ rfl (.inl rfl) fun a u hb hA hd => by
            have q0 := hd 7 76 rfl rfl _ rfl
            have q1 := hd 16 85 rfl rfl _ rfl
            rw [run_pickF rfl q0]
            exact congrArg (fun z => Result.ok (Next.value z) u) q1
      case rest11 =>
        intro vs w11 hb hR
        have ee : vs 17 = .bool false := hR 17 (by decide)
        simp only [putsFrom, Act.put, List.setIfInBounds_toArray, List.set_cons_succ, List.set_cons_zero, ee]
        generalize vs 0 = z0
        generalize vs 1 = z1
        generalize vs 2 = z2
        generalize vs 3 = z3
        generalize vs 4 = z4
        generalize vs 5 = z5
        generalize vs 6 = z6
        generalize vs 7 = z7
        generalize vs 8 = z8
        generalize vs 9 = z9
        generalize vs 10 = z10
        generalize vs 11 = z11
        generalize vs 12 = z12
        generalize vs 13 = z13
        generalize vs 14 = z14
        generalize vs 15 = z15
        generalize vs 16 = z16
        have S11 := Lib.hid (S10.out.on hb)
        have HCf11 := Lib.hid (HCf10.out.on hb)
        have HLf11 := Lib.hid (HLf10.out.below hb)
        have HCh11 := Lib.hid (HCh10.out.on hb)
        have HLh11 := Lib.hid (HLh10.out.below hb)
        clear hR hb S10 HCd10 HLd10 HCf10 HLf10 HCh10 HLh10 HMD HOD HOC
        go_wp2_with (refine wpList_load_part rfl 25 (.tmp 13) rfl g2 0 rfl (Cr.c f Df cf).toList _ HCf11.out.all Try.underlying25 rfl cred_size (Cr.v f Df cf) rfl ?_)
        refine (gcheck_calls f Df cf w11 HLf11.out.sm).mono ?_
        rintro e w12 ⟨rfl, hb⟩
        have S12 := Lib.hid (S11.out.on hb)
        have HCf12 := Lib.hid (HCf11.out.on hb)
        have HLf12 := Lib.hid (HLf11.out.below hb)
        have HCh12 := Lib.hid (HCh11.out.on hb)
        have HLh12 := Lib.hid (HLh11.out.below hb)
        clear hb S11 HCf11 HLf11 HCh11 HLh11
        by_cases h4 : m + 1 ≤ 4
        case neg =>
          rw [HCK.out, if_neg h4]
          go_wp2_with (fail)
          refine (alive_calls _).mono ?_
          rintro e w9 ⟨rfl, hb⟩
          have S9 := Lib.hid (S12.out.on hb)
          clear hb
          go_wp2_with (fail)
          go_ret
          exact ⟨rfl, S9.out.be⟩
        case pos =>
          have HF4 := Lib.hid (HMF.out h4)
          have HH4 := Lib.hid (HMH.out h4)
          rw [HCK.out, if_pos h4]
          clear HMF HMH h4
          go_wp2_with (first
            | (refine wpList_load_part rfl 25 (.tmp 13) rfl g2 0 rfl (Cr.c f Df cf).toList _ HCf12.out.all Try.underlying25 rfl cred_size (Cr.v f Df cf) rfl ?_)
            | (refine wpList_load_part rfl 31 (.tmp 6) rfl (w.heap.size + 1) 0 rfl (x.c p).toList _ S12.out.bt.bt0 Try.underlying31 rfl attr_size (x.v p) rfl ?_))
          refine (HF4.out w12 HLf12.out S12.out.al).mono ?_
          rintro e w13 ⟨rfl, hb⟩
          have S13 := Lib.hid (S12.out.on hb)
          have HCh13 := Lib.hid (HCh12.out.on hb)
          have HLh13 := Lib.hid (HLh12.out.below hb)
          clear hb S12 HCf12 HLf12 HCh12 HLh12
          go_wp2_with (first
            | (refine wpList_load_part rfl 25 (.tmp 14) rfl g3 0 rfl (Cr.c h Dh ch).toList _ HCh13.out.all Try.underlying25 rfl cred_size (Cr.v h Dh ch) rfl ?_)
            | (refine wpList_load_part rfl 31 (.tmp 6) rfl (w.heap.size + 1) 0 rfl (x.c p).toList _ S13.out.bt.bt0 Try.underlying31 rfl attr_size (x.v p) rfl ?_))
          refine (HH4.out w13 HLh13.out S13.out.al).mono ?_
          rintro e w14 ⟨rfl, hb⟩
          have S14 := Lib.hid (S13.out.on hb)
          clear hb S13
          go_wp2_with (fail)
          refine (alive_calls _).mono ?_
          rintro e w9 ⟨rfl, hb⟩
          have S9 := Lib.hid (S14.out.on hb)
          clear hb
          go_wp2_with (fail)
          go_ret
          exact ⟨rfl, S9.out.be⟩
end Go.Proofs.Ytejhodjbgablaaa
