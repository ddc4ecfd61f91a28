/- Has anybody the perm to run? The mask. -/
import Derived.Test.YtejhodjbgablaaaGh
set_option linter.unusedSimpArgs false
set_option linter.unusedVariables false
namespace Go.Proofs.Ytejhodjbgablaaa
open Go.RowKit
theorem run_enter {P : Program} {f : FuncId} {fn : Func} {c : Code} (hf : P.funcs[f]? = some fn) (hname : (fn.name == "runtime.NumGoroutine") = false) (hb : fn.body = some c) (args : Array Value) (w : World) :
    (callFunc f args).run P w = .ok (.enter f args) w := by
  have h1 : fn.name ≠ "runtime.NumGoroutine" := by simpa using hname
  simp [callFunc, hf, h1, hb]
theorem maskof_calls (x : Ac) (p : Lie) (w : World) : Calls Try.prog 37 #[x.v p] w fun e w' => e = .returned (.int .u8 (maskN x : Nat)) ∧ Below w.heap.size w w' := by
  have hb0 : Below w.heap.size w (w.alloc (.cells (x.c p) 28)) := (Below.refl _ _).alloc (Nat.le_refl _) _
  have HB := Lib.hid hb0
  obtain ⟨ow, gr, ot, us, gs, hm, ms⟩ := x
  clear hb0
  cases hm
  all_goals
    go_enter Try.func37, Try.ntmps37
    go_wp2_with (fail)
    go_ret
    exact ⟨rfl, HB.out⟩
/-- What may be, in bytes. -/
structure Low (x : At) : Prop where
  ow : x.ac.ow < 8
  gr : x.ac.gr < 8
  ot : x.ac.ot < 8
  mn : maskN x.ac < 8
  us : ∀ p ∈ x.ac.us, p.pm < 256
  gs : ∀ p ∈ entL x, p.pm < 256
  el : (entL x).length ≤ 1099511627776
theorem low_of {x : At} (h : amayB x = true) : Low x := by
  obtain ⟨_, hac, _, _, _⟩ := amay_parts h
  have hm := mayB_iff.1 hac
  obtain ⟨u7, _⟩ := rise_nm hm.us
  obtain ⟨g7, _⟩ := rise_nm hm.gs
  have h1 := hm.ow
  have h2 := hm.gr
  have h3 := hm.ot
  have h4 := hm.ms
  refine ⟨by omega, by omega, by omega, ?_, fun p hp => by have := u7 p hp; omega, fun p hp => ?_, ?_⟩
  · unfold maskN
    split <;> omega
  · unfold entL at hp
    rcases List.mem_cons.1 hp with rfl | hp
    · show x.ac.gr < 256
      omega
    · have := g7 p hp
      omega
  · have := (namedB_iff.1 hm.gs).2
    show x.ac.gs.length + 1 ≤ 1099511627776
    omega
theorem lt8 {l : List Nat} (h : ∀ p ∈ l, p < 2 ^ 3) : ∀ p ∈ l, p < 256 := fun p hp => by have := h p hp; omega
set_option maxRecDepth 100000 in
set_option maxHeartbeats 8000000 in
theorem runs_calls (x : At) (p : ALie) (w : World) (h : ALies w x p) (hs : ASm x) (hw : Low x) :
    Calls Try.prog 42 #[x.v p] w fun e w' => e = .returned (.bool (runsN x)) ∧ Below w.heap.size w w' := by
  obtain ⟨V, hV⟩ : ∃ V, V = w.alloc (.cells (x.c p) 31) := ⟨_, rfl⟩
  have hb : Below w.heap.size w V := by rw [hV]; exact (Below.refl _ _).alloc (Nat.le_refl _) _
  have hz : Bt V w.heap.size x p := by rw [hV]; exact Bt.new w x p
  have hl := h.below hb
  obtain ⟨b, hbx⟩ : ∃ b, w.heap.size = b := ⟨_, rfl⟩
  rw [hbx] at hz
  have hfun : ∀ W (i : Nat), Below V.heap.size V W → Calls Try.prog 53 (#[.int .u16 (i : Nat)] ++ #[]) W fun e w' => e = .returned (.bool true) ∧ Below W.heap.size W w' := fun W i _ => (runs1_calls i W).mono (by
    rintro e w' ⟨rfl, rfl⟩
    exact ⟨rfl, Below.refl _ _⟩)
  have hent : ∀ W, Calls Try.prog 53 #[] W (fun _ _ => True) → True := fun _ _ => trivial
  have c1 : Calls Try.prog 38 #[.slice p.p.A x.ac.us.length p.p.c, .int .u8 7, .func (.func 53) #[] #[]] V fun e w' => ∃ B d, e = .returned (.slice B (permsL x.ac.us 7 fun _ => true).length d) ∧ Hid (Cel w' B (bv (permsL x.ac.us 7 fun _ => true))) ∧ Below V.heap.size V w' :=
    perms_calls 53 #[] (fun _ => true) p.p.A x.ac.us p.p.c 7 V hl.ac.us hs.ac.us (by omega) hw.us (fun args W => run_enter Try.func53 (by kernel_rfl) rfl args W) hfun
  have HC1 := Lib.hid c1
  have HL := Lib.hid hl
  have HS := Lib.hid hs
  have HW := Lib.hid hw
  have HZ := Lib.hid hz
  have HB := Lib.hid hb
  have y6 := hz.c6
  clear h hb hz hs hw hl hfun hent c1
  go_enter Try.func42, Try.ntmps42
  go_upto_region 1 with (fail)
  rw [← hV]
  clear hV hbx
  go_wp2_with (fail)
  refine HC1.out.mono ?_
  rintro e w1 ⟨B1, d1, rfl, hR1, hb1⟩
  have HB1 := Lib.hid hb1
  have HZ1 := Lib.hid (HZ.out.on hb1)
  have HL1 := Lib.hid (HL.out.below hb1)
  clear HC1 hb1 y6
  go_wp2_with (refine wpList_load_part rfl 31 (.tmp 1) rfl b 0 rfl (x.c p).toList _ HZ1.out.bt0 Try.underlying31 rfl attr_size (x.v p) rfl ?_)
  refine (ent_calls x p w1 HL1.out HS.out).mono ?_
  rintro e w2 ⟨B2, d2, rfl, hR2, hb2⟩
  have HR1 := Lib.hid (hR1.out.below hb2)
  have HZ2 := Lib.hid (HZ1.out.on hb2)
  have HB2 := Lib.hid (HB1.out.trans (hb2.mono HB1.out.size))
  have c2 : Calls Try.prog 38 #[.slice B2 (entL x).length d2, .int .u8 7, .func (.func 53) #[] #[]] w2 fun e w' => ∃ B d, e = .returned (.slice B (permsL (entL x) 7 fun _ => true).length d) ∧ Hid (Cel w' B (bv (permsL (entL x) 7 fun _ => true))) ∧ Below w2.heap.size w2 w' :=
    perms_calls 53 #[] (fun _ => true) B2 (entL x) d2 7 w2 hR2.out HW.out.el (by omega) HW.out.gs (fun args W => run_enter Try.func53 (by kernel_rfl) rfl args W) (fun W i _ => (runs1_calls i W).mono (by
      rintro e w' ⟨rfl, rfl⟩
      exact ⟨rfl, Below.refl _ _⟩))
  have HC2 := Lib.hid c2
  clear hb2 hR1 hR2 c2 HZ1 HL1 HB1 HL HZ
  go_wp2_with (fail)
  refine HC2.out.mono ?_
  rintro e w3 ⟨B3, d3, rfl, hR3, hb3⟩
  have HR1' := Lib.hid (HR1.out.below hb3)
  have HZ3 := Lib.hid (HZ2.out.on hb3)
  have HB3 := Lib.hid (HB2.out.trans (hb3.mono HB2.out.size))
  clear HC2 hb3 HZ2 HB2 HR1
  obtain ⟨l1, hl1⟩ : ∃ l, permsL x.ac.us 7 (fun _ => true) = l := ⟨_, rfl⟩
  obtain ⟨l2, hl2⟩ : ∃ l, permsL (entL x) 7 (fun _ => true) = l := ⟨_, rfl⟩
  have hv : runsN x = hasB (orL [x.ac.ow, orL l1, orL l2, x.ac.ot]) 1 := by rw [← hl1, ← hl2]; rfl
  have b1 : ∀ p ∈ l1, p < 2 ^ 3 := by rw [← hl1]; exact permsL_lt (by decide)
  have b2 : ∀ p ∈ l2, p < 2 ^ 3 := by rw [← hl2]; exact permsL_lt (by decide)
  have n1 : l1.length ≤ 9223372036854775807 := by rw [← hl1]; have := permsL_len x.ac.us 7 (fun _ => true); have := HS.out.ac.us; omega
  have n2 : l2.length ≤ 9223372036854775807 := by rw [← hl2]; have := permsL_len (entL x) 7 (fun _ => true); have := HW.out.el; omega
  rw [hl1] at HR1' ⊢
  rw [hl2] at hR3 ⊢
  have HBB1 := Lib.hid b1
  have HBB2 := Lib.hid b2
  have HV := Lib.hid hv
  have o1 := orL_lt 3 b1
  have o2 := orL_lt 3 b2
  have HT : Hid (∀ p ∈ [x.ac.ow, orL l1, orL l2, x.ac.ot], p < 2 ^ 3) := Lib.hid (fun p hp => by
    have := HW.out.ow
    have := HW.out.ot
    simp only [List.mem_cons, List.not_mem_nil, or_false] at hp
    omega)
  clear hl1 hl2 hv b1 b2
  go_upto_region 4 with (fail)
  refine wp_region4 [.val (.pointer (some ⟨b, 3, none⟩)), .val (.pointer (some ⟨b, 3, none⟩)), .val (.int .u8 (x.ac.ow : Nat)), .val (.slice B1 l1.length d1), .val (.int .u8 (orL l1 : Nat)), .val (.slice B3 l2.length d3), .val (.int .u8 (orL l2 : Nat)), .val (.pointer (some ⟨b, 3, none⟩)), .val (.pointer (some ⟨b, 5, none⟩)), .val (.int .u8 (x.ac.ot : Nat)), rowS [x.ac.ow, orL l1, orL l2, x.ac.ot], .val (.int .u8 (orL [x.ac.ow, orL l1, orL l2, x.ac.ot] : Nat)), .val (.bool (runsN x)), .val (.bool (runsN x))] (by kernel_rfl) (by kernel_rfl) (by kernel_rfl) ?steps ?rest
  case steps =>
    refine ⟨?s0, ?s1, ?s2, ?s3, ?s4, ?s5, ?s6, ?s7, ?s8, ?s9, ?s10, ?s11, ?s12, ?s13, trivial⟩
    case s0 =>
      exact st4_val _ rfl (.inl rfl) fun a u hb hA hd => by
        have q0 := ev_of (show a.eval (.tmp 1) = .pointer (some ⟨b, 0, none⟩) from hA.eval 1 rfl)
        unfold execOp
        simp [go_sem, q0]
    case s1 =>
      exact st4_val _ rfl (.inl rfl) fun a u hb hA hd => by
        have q0 := ev_of (show a.eval (.tmp 15) = .pointer (some ⟨b, 3, none⟩) from hd 0 15 rfl rfl _ rfl)
        unfold execOp
        simp [go_sem, q0]
    case s2 =>
      exact st4_val _ rfl (.inl rfl) fun a u hb hA hd => by
        have q0 := ev_of (show a.eval (.tmp 16) = .pointer (some ⟨b, 3, none⟩) from hd 1 16 rfl rfl _ rfl)
        have y0 := (show u.cell? ⟨b, 3, none⟩ = some (.int .u8 (x.ac.ow : Nat)) from (HZ3.out.on hb).cell 3)
        unfold execOp
        simp [go_sem, q0, y0]
    case s3 =>
      exact st4_val _ rfl (.inl rfl) fun a u hb hA hd => by
        have q0 := ev_of (show a.eval (.tmp 4) = .slice B1 l1.length d1 from hA.eval 4 rfl)
        unfold execOp
        simp [go_sem, q0]
    case s4 =>
      refine st4_call _ rfl (.inl rfl) 29 fun a u hb hA hd => ?_
      have q0 := ev_of (show a.eval (.tmp 18) = .slice B1 l1.length d1 from hd 3 18 rfl rfl _ rfl)
      refine ⟨#[.slice B1 l1.length d1], ?_, (together_calls B1 l1 d1 u (HR1'.out.below hb) n1 (lt8 HBB1.out)).mono ?_⟩
      · unfold execOp
        simp [go_sem, q0]
      · rintro e w' ⟨rfl, rfl⟩
        exact ⟨_, rfl, rfl, Below.refl _ _⟩
    case s5 =>
      exact st4_val _ rfl (.inl rfl) fun a u hb hA hd => by
        have q0 := ev_of (show a.eval (.tmp 5) = .slice B3 l2.length d3 from hA.eval 5 rfl)
        unfold execOp
        simp [go_sem, q0]
    case s6 =>
      refine st4_call _ rfl (.inl rfl) 29 fun a u hb hA hd => ?_
      have q0 := ev_of (show a.eval (.tmp 20) = .slice B3 l2.length d3 from hd 5 20 rfl rfl _ rfl)
      refine ⟨#[.slice B3 l2.length d3], ?_, (together_calls B3 l2 d3 u (hR3.out.below hb) n2 (lt8 HBB2.out)).mono ?_⟩
      · unfold execOp
        simp [go_sem, q0]
      · rintro e w' ⟨rfl, rfl⟩
        exact ⟨_, rfl, rfl, Below.refl _ _⟩
    case s7 =>
      exact st4_val _ rfl (.inl rfl) fun a u hb hA hd => by
        have q0 := ev_of (show a.eval (.tmp 1) = .pointer (some ⟨b, 0, none⟩) from hA.eval 1 rfl)
        unfold execOp
        simp [go_sem, q0]
    case s8 =>
      exact st4_val _ rfl (.inl rfl) fun a u hb hA hd => by
        have q0 := ev_of (show a.eval (.tmp 22) = .pointer (some ⟨b, 3, none⟩) from hd 7 22 rfl rfl _ rfl)
        unfold execOp
        simp [go_sem, q0]
    case s9 =>
      exact st4_val _ rfl (.inl rfl) fun a u hb hA hd => by
        have q0 := ev_of (show a.eval (.tmp 23) = .pointer (some ⟨b, 5, none⟩) from hd 8 23 rfl rfl _ rfl)
        have y0 := (show u.cell? ⟨b, 5, none⟩ = some (.int .u8 (x.ac.ot : Nat)) from (HZ3.out.on hb).cell 5)
        unfold execOp
        simp [go_sem, q0, y0]
    case s10 =>
      refine st4_mk _ rfl (.inl rfl) fun a u hb hA hd => ?_
      have q0 := ev_of (show a.eval (.tmp 17) = .int .u8 (x.ac.ow : Nat) from hd 2 17 rfl rfl _ rfl)
      have q1 := ev_of (show a.eval (.tmp 19) = .int .u8 (orL l1 : Nat) from hd 4 19 rfl rfl _ rfl)
      have q2 := ev_of (show a.eval (.tmp 21) = .int .u8 (orL l2 : Nat) from hd 6 21 rfl rfl _ rfl)
      have q3 := ev_of (show a.eval (.tmp 24) = .int .u8 (x.ac.ot : Nat) from hd 9 24 rfl rfl _ rfl)
      refine ⟨.slice (some ⟨u.heap.size, 0, none⟩) 4 4, u.alloc (.cells (bv [x.ac.ow, orL l1, orL l2, x.ac.ot]).toArray 5), ?_, ⟨some ⟨u.heap.size, 0, none⟩, 4, rfl, cel_row (heap_alloc_new u _) (by simp [bv])⟩, (Below.refl _ _).alloc (Nat.le_refl _) _⟩
      unfold execOp
      simp [go_sem, q0, q1, q2, q3, bv]
    case s11 =>
      refine st4_call _ rfl (.inl rfl) 29 fun a u hb hA hd => ?_
      obtain ⟨A, c, e0, hC⟩ := (show ∃ A c, a.eval (.tmp 25) = .slice A [x.ac.ow, orL l1, orL l2, x.ac.ot].length c ∧ Cel u A (bv [x.ac.ow, orL l1, orL l2, x.ac.ot]) from hd 10 25 rfl rfl _ rfl)
      have q0 := ev_of e0
      refine ⟨#[.slice A [x.ac.ow, orL l1, orL l2, x.ac.ot].length c], ?_, (together_calls A [x.ac.ow, orL l1, orL l2, x.ac.ot] c u hC (by simp) (lt8 HT.out)).mono ?_⟩
      · unfold execOp
        simp [go_sem, q0]
      · rintro e w' ⟨rfl, rfl⟩
        exact ⟨_, rfl, rfl, Below.refl _ _⟩
    case s12 =>
      refine st4_call _ rfl (.inl rfl) 26 fun a u hb hA hd => ?_
      have q0 := ev_of (show a.eval (.tmp 26) = .int .u8 (orL [x.ac.ow, orL l1, orL l2, x.ac.ot] : Nat) from hd 11 26 rfl rfl _ rfl)
      refine ⟨#[.int .u8 (orL [x.ac.ow, orL l1, orL l2, x.ac.ot] : Nat), .int .u8 1], ?_, (grants_calls (orL [x.ac.ow, orL l1, orL l2, x.ac.ot]) 1 u (by have := orL_lt 3 HT.out; omega) (by omega)).mono ?_⟩
      · unfold execOp
        simp [go_sem, q0]
      · rintro e w' ⟨rfl, rfl⟩
        exact ⟨_, rfl, by rw [HV.out]; rfl, Below.refl _ _⟩
    case s13 =>
      exact st4_assign 12 27 rfl (.inl rfl) rfl rfl rfl
  case rest =>
    intro vs u hb hR
    have ee : vs 13 = .bool (runsN x) := hR 13 (by decide)
    simp only [putsFrom, Act.put, List.setIfInBounds_toArray, List.set_cons_succ, List.set_cons_zero, ee]
    generalize vs 0 = z0
    generalize vs 1 = z1
    generalize vs 2 = z2
    generalize vs 3 = z3
    generalize vs 4 = z4
    generalize vs 5 = z5
    generalize vs 6 = z6
    generalize vs 7 = z7
    generalize vs 8 = z8
    generalize vs 9 = z9
    generalize vs 10 = z10
    generalize vs 11 = z11
    generalize vs 12 = z12
    have HBE := Lib.hid (HB3.out.trans (Below.mono hb HB3.out.size))
    go_wp2_with (fail)
    go_ret
    exact ⟨rfl, HB.out.trans (HBE.out.mono HB.out.size)⟩
end Go.Proofs.Ytejhodjbgablaaa
