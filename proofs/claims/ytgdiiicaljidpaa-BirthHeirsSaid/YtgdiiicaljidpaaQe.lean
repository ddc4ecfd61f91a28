/- What is begun, by the program. -/
import Derived.Test.YtgdiiicaljidpaaQd
import Derived.Test.YtgdiiicaljidpaaQr
import Derived.Test.YtgdiiicaljidpaaGx
import Derived.Deep.DeepCutAuto
set_option linter.unusedSimpArgs false
set_option linter.unusedVariables false
set_option linter.unusedSimpArgs false
set_option linter.unusedVariables false
namespace Go.Proofs.Ytgdiiicaljidpaa
open Go.RowKit
theorem one_cells {P : Program} {u : World} {a : Act} {o : Oper} {x : Operand} (ty : TypeId) (ho : o.op = .load ty x) (g k : Nat) (hx : a.eval x = .pointer (some ⟨g, k, none⟩)) (cs : List Value) (d : TypeDesc) (hc : ∀ j v, cs[j]? = some v → u.cell? ⟨g, k + j, none⟩ = some v)
    (hu : P.underlying ty = some d) (hd : (match d with | .struct _ | .array _ _ => true | _ => false) = true) (hi : (P.info? ty).map (·.size) = some cs.length) : (execOp a.eval o).run P u = .ok (.value (.agg cs.toArray)) u := by
  unfold execOp
  simp only [ho, hx, Instr.loadAt, Instr.sureAddr, Sem.run_bind, Sem.run_pure, Result.andThen_ok, run_loadVar_part u ty g k cs d hc hu hd hi]
theorem run_loadC {o : Oper} {a : Act} {u : World} {x : Operand} (ho : o.op = .load 25 x) (g : Nat) (y : Cr) (A : Option Addr) (n : Nat) (hx : a.eval x = .pointer (some ⟨g, 0, none⟩)) (h : Cb u g y A n) : (execOp a.eval o).run Try.prog u = .ok (.value (y.v A n)) u :=
  one_cells 25 ho g 0 hx (y.c A n).toList _ h.all Try.underlying25 rfl cred_size
section
variable {P : Program} {T : World → World → Prop} {R : Nat → Value → World → Prop} {l0 : List Oper} {a0 : Act} {w0 : World} {s : Nat}
/-- What is owed of the operations ahead of s alone. -/
def StepsX (P : Program) (T : World → World → Prop) (R : Nat → Value → World → Prop) (l0 : List Oper) (a0 : Act) (w0 : World) (s : Nat) : Nat → List Oper → Prop
  | _, [] => True
  | k, o :: r => (k < s → StepAt P T R l0 a0 w0 k o) ∧ StepsX P T R l0 a0 w0 s (k + 1) r
theorem StepsX.at : ∀ {l : List Oper} {k : Nat}, StepsX P T R l0 a0 w0 s k l → ∀ (i : Nat) (o : Oper), l[i]? = some o → k + i < s → StepAt P T R l0 a0 w0 (k + i) o
  | [], _, _, i, o, h, _ => by simp at h
  | x :: r, k, hS, i, o, h, hn => by
    cases i with
    | zero =>
      simp only [List.getElem?_cons_zero, Option.some.injEq] at h
      subst h
      exact hS.1 hn
    | succ i =>
      rw [List.getElem?_cons_succ] at h
      have := hS.2.at i o h (by omega)
      rwa [show k + 1 + i = k + (i + 1) by omega] at this
theorem StepsX.at0 (h : StepsX P T R l0 a0 w0 s 0 l0) (i : Nat) (o : Oper) (hi : l0[i]? = some o) (hs : i < s) : StepAt P T R l0 a0 w0 i o := by
  have := h.at i o hi (by omega)
  rwa [Nat.zero_add] at this
end
/-- A process, attributes, zeros for a result: three blocks of the call's own. -/
structure Pz (w V : World) (c : Cr) (A : Option Addr) (n : Nat) (x : At) (p : ALie) (r : Nat) : Prop where
  pb : Pb w V c A n x p
  rz : V.heap[r]? = some (.cells zAt 31 (0, 0))
  hr : w.heap.size ≤ r
section
variable {w V V' : World} {c : Cr} {A : Option Addr} {n : Nat} {x : At} {p : ALie} {r : Nat}
theorem Pb.one (h : Pb w V c A n x p) (o : Obj) : Pb w (V.alloc o) c A n x p := h.on ((Below.refl _ _).alloc (Nat.le_refl _) o)
theorem Pz.on (h : Pz w V c A n x p r) (hb : Below V.heap.size V V') : Pz w V' c A n x p r := ⟨h.pb.on hb, (hb.block _ (lt_of_cells h.rz)).trans h.rz, h.hr⟩
theorem Pz.start (hc : CLies w c A) (h : ALies w x p) : Pz w (((w.alloc (.cells (c.c A n) 25)).alloc (.cells (x.c p) 31)).alloc (.cells zAt 31)) c A n x p (w.heap.size + 2) := by
  refine ⟨(Pb.start hc h).one _, ?_, by omega⟩
  have := heap_alloc_new ((w.alloc (.cells (c.c A n) 25)).alloc (.cells (x.c p) 31)) (.cells zAt 31)
  simpa only [World.size_alloc, Nat.add_assoc] using this
end
/-- A variable of attributes, their rows one's own. -/
structure Ho (V : World) (g : Nat) (x : At) (q : ALie) : Prop where
  bt : Bt V g x q
  ow : AOw V x q
section
variable {V V' : World} {x : At}
theorem Ho.li {g : Nat} {q : ALie} (h : Ho V g x q) : ALies V x q := h.ow.lies
theorem Ho.on {g : Nat} {q : ALie} (h : Ho V g x q) (hb : Below V.heap.size V V') : Ho V' g x q := ⟨h.bt.on hb, h.ow.below hb⟩
theorem Ho.fresh {q : ALie} (h : AOw V x q) : Ho ((V.alloc (.cells zAt 31)).setRow V.heap.size (At.c x q)) V.heap.size x q := ⟨setRow_heap _ _ _ _ _ _ (heap_alloc_new V _), h.below (put_below V (At.c x q))⟩
theorem Ho.put {g : Nat} {q : ALie} (h : Ho V g x q) {y : At} {r : ALie} (ho : AOw V y r) : Ho (V.setRow g (At.c y r)) g y r := ⟨setRow_heap _ _ _ _ _ _ h.bt, ho.turn h.bt _⟩
theorem Ho.other {g g' : Nat} {q r : ALie} {y : At} (h : Ho V g x q) (k : Bt V g' y r) (hne : g ≠ g') (D : Array Value) : Ho (V.setRow g' D) g x q := ⟨(setRow_other V g' g D hne).trans h.bt, h.ow.turn k _⟩
end
/-- The same three blocks, and their rows as they lay at the call's beginning: blocks behind them may turn. -/
structure Py (w V : World) (c : Cr) (A : Option Addr) (n : Nat) (x : At) (p : ALie) : Prop where
  cb : Cb V w.heap.size c A n
  bt : Bt V (w.heap.size + 1) x p
  rz : V.heap[w.heap.size + 2]? = some (.cells zAt 31 (0, 0))
  cl0 : CLies w c A
  al0 : ALies w x p
  be : Below w.heap.size w V
section
variable {w V V' : World} {c : Cr} {A : Option Addr} {n : Nat} {x : At} {p : ALie}
theorem Py.pb (h : Py w V c A n x p) : Pb w V c A n x p := ⟨h.cb, h.bt, h.cl0.below h.be, h.al0.below h.be, h.be⟩
theorem Py.hr (_ : Py w V c A n x p) : w.heap.size ≤ w.heap.size + 2 := by omega
theorem Py.on (h : Py w V c A n x p) (hb : Below V.heap.size V V') : Py w V' c A n x p := ⟨h.cb.on hb, h.bt.on hb, (hb.block _ (lt_of_cells h.rz)).trans h.rz, h.cl0, h.al0, h.be.trans (hb.mono h.be.size)⟩
theorem Py.turn {g : Nat} (h : Py w V c A n x p) (hg : w.heap.size + 3 ≤ g) (D : Array Value) : Py w (V.setRow g D) c A n x p :=
  ⟨(setRow_other V g _ D (by omega)).trans h.cb, (setRow_other V g _ D (by omega)).trans h.bt, (setRow_other V g _ D (by omega)).trans h.rz, h.cl0, h.al0, below_setRow h.be (by omega) _⟩
theorem Py.start (hc : CLies w c A) (h : ALies w x p) : Py w (((w.alloc (.cells (c.c A n) 25)).alloc (.cells (x.c p) 31)).alloc (.cells zAt 31)) c A n x p := by
  have q := Pz.start (n := n) hc h
  exact ⟨q.pb.cb, q.pb.bt, q.rz, hc, h, q.pb.be⟩
end
theorem hid_val {v v' : Value} (h : v = v') : v' = v := h.symm
set_option maxRecDepth 100000 in
set_option maxHeartbeats 8000000 in
theorem new_calls (c : Cr) (A : Option Addr) (n u : Nat) (x : At) (p : ALie) (k m : Nat) (w : World) (hc : CLies w c A) (h : ALies w x p) (hs : ASm x) (hu : u < 65536) (hm6 : m < 65536) :
    Calls Try.prog 11 #[c.v A n, .int .u16 (u : Nat), x.v p, .int .u8 (k : Nat), .int .u16 (m : Nat)] w fun e w' => ∃ q, e = .returned (.tuple #[At.v (newA c u x k m) q, .int .i64 (newN c x k)]) ∧ AOw w' (newA c u x k m) q ∧ Below w.heap.size w w' := by
  obtain ⟨V, hV⟩ : ∃ V, V = ((w.alloc (.cells (c.c A n) 25)).alloc (.cells (x.c p) 31)).alloc (.cells zAt 31) := ⟨_, rfl⟩
  have S0 : Hid (Py w V c A n x p) := Lib.hid (by rw [hV]; exact Py.start hc h)
  have HS := Lib.hid hs
  obtain ⟨X, hX⟩ : ∃ X, newA c u x k m = X := ⟨_, rfl⟩
  obtain ⟨N, hN⟩ : ∃ N, newN c x k = N := ⟨_, rfl⟩
  rw [hX, hN]
  have HX := Lib.hid hX
  have HN := Lib.hid hN
  clear h hc hs hX hN
  go_enter Try.func11, Try.ntmps11
  go_upto_region 1 with (fail)
  rw [← hV]
  clear hV
  go_wp2_with (first
  | (refine wpList_load_part rfl 25 (.tmp 5) rfl w.heap.size 0 rfl (Cr.c c A n).toList _ (S0.out.pb.cb).all Try.underlying25 rfl cred_size (Cr.v c A n) rfl ?_)
  | (refine wpList_load_part rfl 31 (.tmp 7) rfl (w.heap.size + 1) 0 rfl (At.c x p).toList _ (S0.out.pb.bt).bt0 Try.underlying31 rfl attr_size (At.v x p) rfl ?_))
  refine (bmay_calls c A n x p k V S0.out.pb.cl S0.out.pb.al HS.out).mono ?_
  rintro e w1 ⟨rfl, hb⟩
  have S1 := Lib.hid (S0.out.on hb)
  clear hb S0
  cases hv : begB c x k
  case false =>
    have HA : Hid (X = atZ) := Lib.hid (by rw [← HX.out]; unfold newA; rw [hv]; rfl)
    have HN2 : Hid (N = 622) := Lib.hid (by rw [← HN.out]; unfold newN; rw [hv]; rfl)
    clear hv
    have hone : (zAt).all (·.oneCell') = true := by rw [← Array.all_toList]; rfl
    obtain ⟨Z, hZ⟩ : ∃ Z, Z = World.setRow w1 (w.heap.size + 2) zAt := ⟨_, rfl⟩
    have HR : Hid (Z.heap[(w.heap.size + 2)]? = some (.cells zAt 31 (0, 0))) := Lib.hid (by rw [hZ]; exact setRow_heap _ _ _ _ _ _ S1.out.rz)
    have HBZ : Hid (Below w.heap.size w Z) := Lib.hid (by rw [hZ]; exact below_setRow S1.out.pb.be S1.out.hr _)
    have HZZ := Lib.hid hZ
    clear hZ
    go_wp2_with (first
      | (refine wpList_buildTo rfl 31 #[] rfl (some 18) rfl zAt (by kernel_rfl) ?_)
      | (refine wpList_store_rowTo rfl 31 (.tmp 10) (.tmp 18) rfl rfl (w.heap.size + 2) zAt rfl rfl 31 _ S1.out.rz attr_size rfl hone ?_; rw [← HZZ.out]))
    exact bodyPost_ret (results_row_tmp rfl _ _ (w.heap.size + 2) 31 zAt (0, 0) _ (.int .i64 622) rfl HR.out rfl Try.underlying31 rfl attr_size) rfl ⟨alieZ, by rw [HA.out, HN2.out]; rfl, by rw [HA.out]; exact AOw.z _, HBZ.out⟩
  case true =>
  obtain ⟨hvb, k1, k3⟩ := beg_parts hv
  have HM := Lib.hid (valid_parts hvb).2
  have HB8 := Lib.hid (may8 HM.out)
  have HN2 : Hid (N = 0) := Lib.hid (by rw [← HN.out]; unfold newN; rw [hv]; rfl)
  have HBEG := Lib.hid hv
  clear hv hvb HN
  go_upto_region 3 with (fail)
  refine wp_region_storeV (R4 [.val (.pointer (some ⟨w.heap.size, 0, none⟩)), .val (.int .u16 (c.ui : Nat)), .val (c.v A n), .val (x.v p), .val (.int .u16 (gidN c x : Nat)), .aco (ofA 511), .ato (linkX c x), .new w1.heap.size]) 8 7 6 12 25 31 rfl rfl (by decide) (by decide) rfl rfl (by kernel_rfl) (by kernel_rfl) (by kernel_rfl) rfl (by kernel_rfl) rfl rfl (fun _ _ _ _ h k => Sp4.stable h k) ?steps ?last
  case steps =>
    refine ⟨?s0, ?s1, ?s2, ?s3, ?s4, ?s5, ?s6, ?s7, trivial⟩
    case s0 =>
      exact st4_val _ rfl (.inl rfl) fun a u hb hA hd => by
        have q0 := ev_of (show a.eval (.tmp 5) = .pointer (some ⟨w.heap.size, 0, none⟩) from hA.eval 5 rfl)
        unfold execOp
        simp [go_sem, q0]
    case s1 =>
      exact st4_val _ rfl (.inl rfl) fun a u hb hA hd => by
        have q0 := ev_of (show a.eval (.tmp 19) = .pointer (some ⟨w.heap.size, 0, none⟩) from hd 0 19 rfl rfl _ rfl)
        have y0 := (S1.out.cb.on hb).c0
        unfold execOp
        simp [go_sem, q0, y0]
    case s2 =>
      exact st4_val _ rfl (.inl rfl) fun a u hb hA hd => run_loadC rfl w.heap.size c A n (hA.eval 5 rfl) (S1.out.cb.on hb)
    case s3 =>
      exact st4_val _ rfl (.inl rfl) fun a u hb hA hd => run_loadT rfl (w.heap.size + 1) x p (hA.eval 7 rfl) (S1.out.bt.on hb)
    case s4 =>
      refine st4_call _ rfl (.inl rfl) 23 fun a u hb hA hd => ?_
      have q0 := ev_of (show a.eval (.tmp 21) = c.v A n from hd 2 21 rfl rfl _ rfl)
      have q1 := ev_of (show a.eval (.tmp 22) = x.v p from hd 3 22 rfl rfl _ rfl)
      refine ⟨#[c.v A n, x.v p], ?_, (group_calls c A n x p u HB8.out).mono ?_⟩
      · unfold execOp
        simp [go_sem, q0, q1]
      · rintro e w' ⟨rfl, hb'⟩
        exact ⟨_, rfl, rfl, hb'⟩
    case s5 =>
      refine st4_call _ rfl (.inl rfl) 24 fun a u hb hA hd => ?_
      refine ⟨#[.int .u16 ((511 : Nat) : Int)], ?_, (of_calls 511 u (by decide)).mono ?_⟩
      · unfold execOp
        simp [go_sem]
      · rintro e w' ⟨q, rfl, hC, hb'⟩
        exact ⟨_, rfl, ⟨q, rfl, LiesO.of hC⟩, hb'⟩
    case s6 =>
      refine st4_gen _ rfl (.inl rfl) fun a u hb hA hd => ?_
      have q0 := ev_of (show a.eval (.tmp 20) = .int .u16 (c.ui : Nat) from hd 1 20 rfl rfl _ rfl)
      have q1 := ev_of (show a.eval (.tmp 23) = .int .u16 (gidN c x : Nat) from hd 4 23 rfl rfl _ rfl)
      obtain ⟨q, e2, hl⟩ := (show ∃ p, a.eval (.tmp 24) = Ac.v (ofA 511) p ∧ LiesO u (ofA 511) p from hd 5 24 rfl rfl _ rfl)
      have q2 := ev_of (show a.eval (.tmp 24) = .agg #[.int .u8 7, .int .u8 7, .int .u8 7, .slice q.A 0 q.c, .slice q.B 0 q.d, .bool false, .int .u8 0] from e2)
      refine ⟨At.v (linkX c x) ⟨q, lieZ, none, 0⟩, u, ?_, ⟨_, rfl, hl, LiesO.z u, rfl, rfl⟩, On.refl _⟩
      unfold execOp
      simp [go_sem, q0, q1, q2, linkX, ofA]
    case s7 =>
      refine st4_gen _ rfl (.inl rfl) fun a u hb hA hd => ?_
      exact ⟨_, _, run_allocT rfl, ⟨u.heap.size, rfl, hb.size, heap_alloc_new u _⟩, on_alloc u _⟩
  case last =>
  intro vs v hb hR
  obtain ⟨g, e7, hgB, hz⟩ := R4.at (.new w1.heap.size) rfl (hR 7 (by decide))
  obtain ⟨q, e6, ho1, ho2, hp0, hp1⟩ := R4.at (.ato (linkX c x)) rfl (hR 6 (by decide))
  refine ⟨g, At.c (linkX c x) q, zAt, _, e7, e6, hz, attr_size, rfl, c_one _ q, ?_⟩
  simp only [putsFrom, Act.put, List.setIfInBounds_toArray, List.set_cons_succ, List.set_cons_zero, e6, e7]
  generalize vs 0 = z0
  generalize vs 1 = z1
  generalize vs 2 = z2
  generalize vs 3 = z3
  generalize vs 4 = z4
  generalize vs 5 = z5
  have HG : Hid (w.heap.size + 3 ≤ g) := Lib.hid (by have := lt_of_cells S1.out.rz; omega)
  have how : AOw v (linkX c x) q := ⟨ho1, ho2, by rw [hp0, hp1]; exact OwnR.nil _ _ _⟩
  obtain ⟨U0, hU0⟩ : ∃ Zz, Zz = v.setRow g (At.c (linkX c x) q) := ⟨_, rfl⟩
  have T0 := Lib.hid ((S1.out.on hb).turn HG.out (At.c (linkX c x) q))
  have H0 : Hid (Ho (v.setRow g (At.c (linkX c x) q)) g (linkX c x) q) := Lib.hid ⟨setRow_heap _ _ _ _ _ _ hz, how.turn hz _⟩
  rw [← hU0] at T0 H0 ⊢
  clear hU0 how ho1 ho2 hp0 hp1 hz hgB e6 e7 hb hR S1
  have h3 : k = 1 ∨ k = 2 ∨ k = 3 := by omega
  clear k1 k3
  rcases h3 with rfl | rfl | rfl
  · have HK : Hid (linkX c x = linkX c x) := Lib.hid rfl
    clear HK
    go_wp2_with (first
      | (refine wpList_load_part rfl 25 (.tmp 5) rfl w.heap.size 0 rfl (Cr.c c A n).toList _ (T0.out.pb.cb).all Try.underlying25 rfl cred_size (Cr.v c A n) rfl ?_)
      | (refine wpList_load_part rfl 31 (.tmp 7) rfl (w.heap.size + 1) 0 rfl (At.c x p).toList _ (T0.out.pb.bt).bt0 Try.underlying31 rfl attr_size (At.v x p) rfl ?_))
    refine (access_calls u m x p U0 T0.out.pb.al HS.out HM.out hu hm6).mono ?_
    rintro e w4 ⟨ql, rfl, hol, hb⟩
    have S4 := Lib.hid (T0.out.on hb)
    have H4 := Lib.hid (H0.out.on hb)
    have HL := Lib.hid hol
    clear hb hol T0 H0
    obtain ⟨L, hL⟩ : ∃ L, accA x u m = L := ⟨_, rfl⟩
    rw [hL] at HL ⊢
    have HLL := Lib.hid hL
    clear hL
    obtain ⟨U5, hU5⟩ : ∃ Zz, Zz = World.setRow w4 g (At.c (withAc (linkX c x) L) ⟨ql, q.q, q.X, q.n⟩) := ⟨_, rfl⟩
    have HN := Lib.hid (H4.out.put (H4.out.ow.acc HL.out))
    have SN := Lib.hid (S4.out.turn HG.out (At.c (withAc (linkX c x) L) ⟨ql, q.q, q.X, q.n⟩))
    rw [← hU5] at HN SN
    go_upto_region 9 with (refine wpList_store_part rfl 28 (.tmp 42) (.tmp 41) rfl rfl g 3 (Ac.c L ql).toList rfl rfl 31 _ H4.out.bt acl_size (Nat.le_of_ble_eq_true rfl) (acl_one _ _) (At.c (withAc (linkX c x) L) ⟨ql, q.q, q.X, q.n⟩) rfl ?_; rw [← hU5])
    clear hU5 S4 H4 HL
    have S5 := SN
    have H5 := HN
    clear SN HN
    have yg : U5.cell? ⟨g, 2, none⟩ = some (.int .u16 (gidN c x : Nat)) := H5.out.bt.c2
    go_wp2_with (first
      | (refine wpList_load_part rfl 25 (.tmp 5) rfl w.heap.size 0 rfl (Cr.c c A n).toList _ (S5.out.pb.cb).all Try.underlying25 rfl cred_size (Cr.v c A n) rfl ?_)
      | (refine wpList_load_part rfl 31 (.tmp 7) rfl (w.heap.size + 1) 0 rfl (At.c x p).toList _ (S5.out.pb.bt).bt0 Try.underlying31 rfl attr_size (At.v x p) rfl ?_))
    refine (bitsof_calls c A n x p 1 (gidN c x) m U5 S5.out.pb.cl S5.out.pb.al HB8.out hm6).mono ?_
    rintro e w6 ⟨rfl, hb⟩
    have S6 := Lib.hid (S5.out.on hb)
    have H6 := Lib.hid (H5.out.on hb)
    clear hb S5 H5 yg
    obtain ⟨bb, hbb⟩ : ∃ b, setB c x 1 (gidN c x) m = b := ⟨_, rfl⟩
    rw [hbb]
    have HBB := Lib.hid hbb
    clear hbb
    obtain ⟨U7, hU7⟩ : ∃ Zz, Zz = World.setRow w6 g (At.c (withBi (withAc (linkX c x) L) bb) ⟨ql, q.q, q.X, q.n⟩) := ⟨_, rfl⟩
    have HN := Lib.hid (H6.out.put (H6.out.ow.bi bb))
    have SN := Lib.hid (S6.out.turn HG.out (At.c (withBi (withAc (linkX c x) L) bb) ⟨ql, q.q, q.X, q.n⟩))
    rw [← hU7] at HN SN
    go_upto_region 10 with (refine wpList_store_part rfl 5 (.tmp 50) (.tmp 49) rfl rfl g 0 [.int .u8 ((bb : Nat) : Int)] rfl rfl 31 _ H6.out.bt u8_size (Nat.le_of_ble_eq_true rfl) (one_of rfl) (At.c (withBi (withAc (linkX c x) L) bb) ⟨ql, q.q, q.X, q.n⟩) rfl ?_; rw [← hU7])
    clear hU7 S6 H6
    have HV : Hid (X = withBi (withAc (linkX c x) L) bb) := Lib.hid (by
      rw [← HX.out, ← HLL.out, ← HBB.out]
      unfold newA
      rw [HBEG.out]
      rfl)
    obtain ⟨C, hC⟩ : ∃ C, C = At.c (withBi (withAc (linkX c x) L) bb) ⟨ql, q.q, q.X, q.n⟩ := ⟨_, rfl⟩
    have hone : C.all (·.oneCell') = true := by rw [hC]; exact c_one _ _
    have hsz : (Try.prog.info? 31).map (·.size) = some C.size := by rw [hC]; exact c_size _ _
    have hold : (zAt : Array Value).size = C.size := by rw [hC]; rfl
    have HBT : Hid ((World.heap U7)[g]? = some (.cells C 31 (0, 0))) := Lib.hid (by rw [hC]; exact HN.out.bt)
    obtain ⟨Z, hZ⟩ : ∃ Z, Z = World.setRow U7 (w.heap.size + 2) C := ⟨_, rfl⟩
    have HR : Hid (Z.heap[(w.heap.size + 2)]? = some (.cells C 31 (0, 0))) := Lib.hid (by rw [hZ]; exact setRow_heap _ _ _ _ _ _ SN.out.rz)
    have HOR := Lib.hid (HN.out.ow.turn SN.out.rz C)
    have HBR : Hid (Below w.heap.size w Z) := Lib.hid (by rw [hZ]; exact below_setRow SN.out.pb.be SN.out.hr _)
    rw [← hZ] at HOR
    have HC := Lib.hid hC
    have HZZ := Lib.hid hZ
    clear hC hZ
    go_wp2_with (first
      | (refine wpList_load_row rfl 31 (.tmp 12) rfl g rfl 31 C (0, 0) _ HBT.out Try.underlying31 rfl hsz ?_)
      | (refine wpList_store_rowTo rfl 31 (.tmp 10) (.tmp 51) rfl rfl (w.heap.size + 2) C rfl rfl 31 _ SN.out.rz hsz hold hone ?_; rw [← HZZ.out]))
    exact bodyPost_ret (results_row_tmp rfl _ _ (w.heap.size + 2) 31 C (0, 0) _ (.int .i64 0) rfl HR.out rfl Try.underlying31 rfl hsz) rfl ⟨⟨ql, q.q, q.X, q.n⟩, by rw [HV.out, HN2.out, HC.out], by rw [HV.out]; exact HOR.out, HBR.out⟩
  · go_upto_region 7 with (fail)
    refine wp_region_tail (R := R4 [.val (.pointer (some ⟨w.heap.size + 1, 10, none⟩)), .val (.bool x.hd), .val (.pointer (some ⟨w.heap.size + 1, 11, none⟩)), .val (x.df.v p.q), .aco x.df, .val (.pointer (some ⟨g, 10, none⟩))]) 6 (by kernel_rfl) (by kernel_rfl) (by kernel_rfl) (by kernel_rfl) (by kernel_rfl) (by decide) (by kernel_rfl) (fun i v w w' h k => Sp4.stable h k) (fun i o hi hn => ?heads) (fun vs v1 hb hR => ?tail)
    case heads =>
      refine StepsX.at0 (s := 6) ?_ i o hi hn
      refine ⟨fun _ => ?s0, fun _ => ?s1, fun _ => ?s2, fun _ => ?s3, fun _ => ?s4, fun _ => ?s5, fun h => absurd h (by decide), fun h => absurd h (by decide), fun h => absurd h (by decide), trivial⟩
      case s0 =>
        exact st4_val _ rfl (.inl rfl) fun a u hb hA hd => by
          have q0 := ev_of (show a.eval (.tmp 7) = .pointer (some ⟨w.heap.size + 1, 0, none⟩) from hA.eval 7 rfl)
          unfold execOp
          simp [go_sem, q0]
      case s1 =>
        exact st4_val _ rfl (.inl rfl) fun a u hb hA hd => by
          have q0 := ev_of (show a.eval (.tmp 31) = .pointer (some ⟨w.heap.size + 1, 10, none⟩) from hd 0 31 rfl rfl _ rfl)
          have y0 := (T0.out.bt.on hb).c10
          unfold execOp
          simp [go_sem, q0, y0]
      case s2 =>
        exact st4_val _ rfl (.inl rfl) fun a u hb hA hd => by
          have q0 := ev_of (show a.eval (.tmp 7) = .pointer (some ⟨w.heap.size + 1, 0, none⟩) from hA.eval 7 rfl)
          unfold execOp
          simp [go_sem, q0]
      case s3 =>
        exact st4_val _ rfl (.inl rfl) fun a u hb hA hd => one_cells 28 rfl (w.heap.size + 1) 11 (hd 2 33 rfl rfl _ rfl) (x.df.c p.q).toList _ (T0.out.bt.on hb).df Try.underlying28 rfl acl_size
      case s4 =>
        refine st4_call _ rfl (.inl rfl) 25 fun a u hb hA hd => ?_
        have q0 := ev_of (show a.eval (.tmp 34) = x.df.v p.q from hd 3 34 rfl rfl _ rfl)
        refine ⟨#[x.df.v p.q], ?_, (copy_calls x.df p.q u (T0.out.on hb).pb.al.df HS.out.df).mono ?_⟩
        · unfold execOp
          simp [go_sem, q0]
        · rintro e w' ⟨q', rfl, hC, hb'⟩
          exact ⟨_, rfl, ⟨q', rfl, LiesO.of hC⟩, hb'⟩
      case s5 =>
        exact st4_val _ rfl (.inl rfl) fun a u hb hA hd => by
          have q0 := ev_of (show a.eval (.tmp 12) = .pointer (some ⟨g, 0, none⟩) from hA.eval 12 rfl)
          unfold execOp
          simp [go_sem, q0]
    case tail =>
    have e1 : vs 1 = .bool x.hd := R4.at (.val (.bool x.hd)) rfl (hR 1 (by decide))
    obtain ⟨q2, e4, hl⟩ := R4.at (.aco x.df) rfl (hR 4 (by decide))
    have e5 : vs 5 = .pointer (some ⟨g, 10, none⟩) := R4.at (.val (.pointer (some ⟨g, 10, none⟩))) rfl (hR 5 (by decide))
    simp only [putsFrom, Act.put, List.setIfInBounds_toArray, List.set_cons_succ, List.set_cons_zero, List.take_succ_cons, List.take_zero, List.drop_succ_cons, List.drop_zero, e1, e4, e5]
    generalize vs 0 = z0'
    generalize vs 2 = z2'
    generalize vs 3 = z3'
    have S2 := Lib.hid (T0.out.on hb)
    have H2 := Lib.hid (H0.out.on hb)
    have HL2 := Lib.hid hl
    clear T0 H0 hb hR e1 e4 e5 hl
    obtain ⟨y, hy⟩ : ∃ y, y = linkX c x := ⟨_, rfl⟩
    rw [← hy] at H2
    have HYG : Hid (withDf y x.hd x.df = withDf (linkX c x) x.hd x.df) := Lib.hid (by rw [hy])
    clear hy
    obtain ⟨U1, hU1⟩ : ∃ Zz, Zz = World.setRow v1 g (At.c (withDf y x.hd y.df) q) := ⟨_, rfl⟩
    have HN := Lib.hid (H2.out.put (H2.out.ow.dfl x.hd H2.out.ow.df))
    have SN := Lib.hid (S2.out.turn HG.out (At.c (withDf y x.hd y.df) q))
    rw [← hU1] at HN SN
    have HQ : Hid (LiesO U1 x.df q2) := Lib.hid (by rw [hU1]; exact HL2.out.turn H2.out.bt (by decide) _)
    have HB1 := Lib.hid HN.out.bt
    have HU1 := Lib.hid hU1
    clear hU1
    have S3 := SN
    have H3 := HN
    clear SN HN
    obtain ⟨U2, hU2⟩ : ∃ Zz, Zz = World.setRow U1 g (At.c (withDf y x.hd x.df) ⟨q.p, q2, q.X, q.n⟩) := ⟨_, rfl⟩
    have HN := Lib.hid (H3.out.put (show AOw U1 (withDf y x.hd x.df) ⟨q.p, q2, q.X, q.n⟩ from H3.out.ow.dfl x.hd HQ.out))
    have SN := Lib.hid (S3.out.turn HG.out (At.c (withDf y x.hd x.df) ⟨q.p, q2, q.X, q.n⟩))
    rw [← hU2] at HN SN
    have HU2 := Lib.hid hU2
    clear hU2
    go_upto_region 8 with (first
  | (refine wpList_store_part rfl 4 (.tmp 36) (.tmp 32) rfl rfl g 10 [.bool x.hd] rfl rfl 31 _ H2.out.bt bool_size (Nat.le_of_ble_eq_true rfl) (one_of rfl) (At.c (withDf y x.hd y.df) q) rfl ?_; rw [← HU1.out])
  | (refine wpList_store_part rfl 28 (.tmp 37) (.tmp 35) rfl rfl g 11 (Ac.c x.df q2).toList rfl rfl 31 _ H3.out.bt acl_size (Nat.le_of_ble_eq_true rfl) (acl_one _ _) (At.c (withDf y x.hd x.df) ⟨q.p, q2, q.X, q.n⟩) rfl ?_; rw [← HU2.out]))
    clear HU1 HU2 S2 H2 S3 H3 HQ HB1
    rw [HYG.out] at HN
    have SN2 := SN
    have HN3 := HN
    clear SN HN HYG
    go_wp2_with (first
      | (refine wpList_load_part rfl 25 (.tmp 5) rfl w.heap.size 0 rfl (Cr.c c A n).toList _ (SN2.out.pb.cb).all Try.underlying25 rfl cred_size (Cr.v c A n) rfl ?_)
      | (refine wpList_load_part rfl 31 (.tmp 7) rfl (w.heap.size + 1) 0 rfl (At.c x p).toList _ (SN2.out.pb.bt).bt0 Try.underlying31 rfl attr_size (At.v x p) rfl ?_))
    refine (access_calls u m x p U2 SN2.out.pb.al HS.out HM.out hu hm6).mono ?_
    rintro e w4 ⟨ql, rfl, hol, hb⟩
    have S4 := Lib.hid (SN2.out.on hb)
    have H4 := Lib.hid (HN3.out.on hb)
    have HL := Lib.hid hol
    clear hb hol SN2 HN3
    obtain ⟨L, hL⟩ : ∃ L, accA x u m = L := ⟨_, rfl⟩
    rw [hL] at HL ⊢
    have HLL := Lib.hid hL
    clear hL
    obtain ⟨U5, hU5⟩ : ∃ Zz, Zz = World.setRow w4 g (At.c (withAc (withDf (linkX c x) x.hd x.df) L) ⟨ql, (⟨q.p, q2, q.X, q.n⟩ : ALie).q, (⟨q.p, q2, q.X, q.n⟩ : ALie).X, (⟨q.p, q2, q.X, q.n⟩ : ALie).n⟩) := ⟨_, rfl⟩
    have HN := Lib.hid (H4.out.put (H4.out.ow.acc HL.out))
    have SN := Lib.hid (S4.out.turn HG.out (At.c (withAc (withDf (linkX c x) x.hd x.df) L) ⟨ql, (⟨q.p, q2, q.X, q.n⟩ : ALie).q, (⟨q.p, q2, q.X, q.n⟩ : ALie).X, (⟨q.p, q2, q.X, q.n⟩ : ALie).n⟩))
    rw [← hU5] at HN SN
    go_upto_region 9 with (refine wpList_store_part rfl 28 (.tmp 42) (.tmp 41) rfl rfl g 3 (Ac.c L ql).toList rfl rfl 31 _ H4.out.bt acl_size (Nat.le_of_ble_eq_true rfl) (acl_one _ _) (At.c (withAc (withDf (linkX c x) x.hd x.df) L) ⟨ql, (⟨q.p, q2, q.X, q.n⟩ : ALie).q, (⟨q.p, q2, q.X, q.n⟩ : ALie).X, (⟨q.p, q2, q.X, q.n⟩ : ALie).n⟩) rfl ?_; rw [← hU5])
    clear hU5 S4 H4 HL
    have S5 := SN
    have H5 := HN
    clear SN HN
    have yg : U5.cell? ⟨g, 2, none⟩ = some (.int .u16 (gidN c x : Nat)) := H5.out.bt.c2
    go_wp2_with (first
      | (refine wpList_load_part rfl 25 (.tmp 5) rfl w.heap.size 0 rfl (Cr.c c A n).toList _ (S5.out.pb.cb).all Try.underlying25 rfl cred_size (Cr.v c A n) rfl ?_)
      | (refine wpList_load_part rfl 31 (.tmp 7) rfl (w.heap.size + 1) 0 rfl (At.c x p).toList _ (S5.out.pb.bt).bt0 Try.underlying31 rfl attr_size (At.v x p) rfl ?_))
    refine (bitsof_calls c A n x p 2 (gidN c x) m U5 S5.out.pb.cl S5.out.pb.al HB8.out hm6).mono ?_
    rintro e w6 ⟨rfl, hb⟩
    have S6 := Lib.hid (S5.out.on hb)
    have H6 := Lib.hid (H5.out.on hb)
    clear hb S5 H5 yg
    obtain ⟨bb, hbb⟩ : ∃ b, setB c x 2 (gidN c x) m = b := ⟨_, rfl⟩
    rw [hbb]
    have HBB := Lib.hid hbb
    clear hbb
    obtain ⟨U7, hU7⟩ : ∃ Zz, Zz = World.setRow w6 g (At.c (withBi (withAc (withDf (linkX c x) x.hd x.df) L) bb) ⟨ql, (⟨q.p, q2, q.X, q.n⟩ : ALie).q, (⟨q.p, q2, q.X, q.n⟩ : ALie).X, (⟨q.p, q2, q.X, q.n⟩ : ALie).n⟩) := ⟨_, rfl⟩
    have HN := Lib.hid (H6.out.put (H6.out.ow.bi bb))
    have SN := Lib.hid (S6.out.turn HG.out (At.c (withBi (withAc (withDf (linkX c x) x.hd x.df) L) bb) ⟨ql, (⟨q.p, q2, q.X, q.n⟩ : ALie).q, (⟨q.p, q2, q.X, q.n⟩ : ALie).X, (⟨q.p, q2, q.X, q.n⟩ : ALie).n⟩))
    rw [← hU7] at HN SN
    go_upto_region 10 with (refine wpList_store_part rfl 5 (.tmp 50) (.tmp 49) rfl rfl g 0 [.int .u8 ((bb : Nat) : Int)] rfl rfl 31 _ H6.out.bt u8_size (Nat.le_of_ble_eq_true rfl) (one_of rfl) (At.c (withBi (withAc (withDf (linkX c x) x.hd x.df) L) bb) ⟨ql, (⟨q.p, q2, q.X, q.n⟩ : ALie).q, (⟨q.p, q2, q.X, q.n⟩ : ALie).X, (⟨q.p, q2, q.X, q.n⟩ : ALie).n⟩) rfl ?_; rw [← hU7])
    clear hU7 S6 H6
    have HV : Hid (X = withBi (withAc (withDf (linkX c x) x.hd x.df) L) bb) := Lib.hid (by
      rw [← HX.out, ← HLL.out, ← HBB.out]
      unfold newA
      rw [HBEG.out]
      rfl)
    obtain ⟨C, hC⟩ : ∃ C, C = At.c (withBi (withAc (withDf (linkX c x) x.hd x.df) L) bb) ⟨ql, (⟨q.p, q2, q.X, q.n⟩ : ALie).q, (⟨q.p, q2, q.X, q.n⟩ : ALie).X, (⟨q.p, q2, q.X, q.n⟩ : ALie).n⟩ := ⟨_, rfl⟩
    have hone : C.all (·.oneCell') = true := by rw [hC]; exact c_one _ _
    have hsz : (Try.prog.info? 31).map (·.size) = some C.size := by rw [hC]; exact c_size _ _
    have hold : (zAt : Array Value).size = C.size := by rw [hC]; rfl
    have HBT : Hid ((World.heap U7)[g]? = some (.cells C 31 (0, 0))) := Lib.hid (by rw [hC]; exact HN.out.bt)
    obtain ⟨Z, hZ⟩ : ∃ Z, Z = World.setRow U7 (w.heap.size + 2) C := ⟨_, rfl⟩
    have HR : Hid (Z.heap[(w.heap.size + 2)]? = some (.cells C 31 (0, 0))) := Lib.hid (by rw [hZ]; exact setRow_heap _ _ _ _ _ _ SN.out.rz)
    have HOR := Lib.hid (HN.out.ow.turn SN.out.rz C)
    have HBR : Hid (Below w.heap.size w Z) := Lib.hid (by rw [hZ]; exact below_setRow SN.out.pb.be SN.out.hr _)
    rw [← hZ] at HOR
    have HC := Lib.hid hC
    have HZZ := Lib.hid hZ
    clear hC hZ
    go_wp2_with (first
      | (refine wpList_load_row rfl 31 (.tmp 12) rfl g rfl 31 C (0, 0) _ HBT.out Try.underlying31 rfl hsz ?_)
      | (refine wpList_store_rowTo rfl 31 (.tmp 10) (.tmp 51) rfl rfl (w.heap.size + 2) C rfl rfl 31 _ SN.out.rz hsz hold hone ?_; rw [← HZZ.out]))
    exact bodyPost_ret (results_row_tmp rfl _ _ (w.heap.size + 2) 31 C (0, 0) _ (.int .i64 0) rfl HR.out rfl Try.underlying31 rfl hsz) rfl ⟨⟨ql, (⟨q.p, q2, q.X, q.n⟩ : ALie).q, (⟨q.p, q2, q.X, q.n⟩ : ALie).X, (⟨q.p, q2, q.X, q.n⟩ : ALie).n⟩, by rw [HV.out, HN2.out, HC.out], by rw [HV.out]; exact HOR.out, HBR.out⟩
  · have HV : Hid (X = linkX c x) := Lib.hid (by
      rw [← HX.out]
      unfold newA
      rw [HBEG.out]
      rfl)
    obtain ⟨C, hC⟩ : ∃ C, C = At.c (linkX c x) q := ⟨_, rfl⟩
    have hone : C.all (·.oneCell') = true := by rw [hC]; exact c_one _ _
    have hsz : (Try.prog.info? 31).map (·.size) = some C.size := by rw [hC]; exact c_size _ _
    have hold : (zAt : Array Value).size = C.size := by rw [hC]; rfl
    have HBT : Hid ((World.heap U0)[g]? = some (.cells C 31 (0, 0))) := Lib.hid (by rw [hC]; exact H0.out.bt)
    obtain ⟨Z, hZ⟩ : ∃ Z, Z = World.setRow U0 (w.heap.size + 2) C := ⟨_, rfl⟩
    have HR : Hid (Z.heap[(w.heap.size + 2)]? = some (.cells C 31 (0, 0))) := Lib.hid (by rw [hZ]; exact setRow_heap _ _ _ _ _ _ T0.out.rz)
    have HOR := Lib.hid (H0.out.ow.turn T0.out.rz C)
    have HBR : Hid (Below w.heap.size w Z) := Lib.hid (by rw [hZ]; exact below_setRow T0.out.pb.be T0.out.hr _)
    rw [← hZ] at HOR
    have HC := Lib.hid hC
    have HZZ := Lib.hid hZ
    clear hC hZ
    go_wp2_with (first
      | (refine wpList_load_row rfl 31 (.tmp 12) rfl g rfl 31 C (0, 0) _ HBT.out Try.underlying31 rfl hsz ?_)
      | (refine wpList_store_rowTo rfl 31 (.tmp 10) (.tmp 51) rfl rfl (w.heap.size + 2) C rfl rfl 31 _ T0.out.rz hsz hold hone ?_; rw [← HZZ.out]))
    exact bodyPost_ret (results_row_tmp rfl _ _ (w.heap.size + 2) 31 C (0, 0) _ (.int .i64 0) rfl HR.out rfl Try.underlying31 rfl hsz) rfl ⟨q, by rw [HV.out, HN2.out, HC.out], by rw [HV.out]; exact HOR.out, HBR.out⟩
end Go.Proofs.Ytgdiiicaljidpaa
