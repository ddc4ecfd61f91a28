/- SuperOnly: whatever it is called with, it hands back true; nothing that was there has turned. -/
import Derived.Test.YtgedahjifbopcaaDoorSupAlive
import Derived.Test.YtgedahjifbopcaaDoorLawSupW
namespace Go.Proofs.YtgedahjifbopcaaDoor
open Go.RowKit SumMath WordMath
section
variable {T : World → World → Prop} {R : Value → World → Prop} {o : Oper} {a : Act} {w : World}
theorem stp_loadG (hT : T w w) (x : Operand) (ho : o.op = .load 23 x) (g : Nat) (P I B : Int) (h1 : a.eval x = .pointer (some ⟨g, 0, none⟩)) (hc : w.heap[g]? = some (.cells #[.int .i64 P, .int .i64 I, .int .i64 B] 23)) (hR : R (gv P I B) w) : StepOK Tryd.prog T o a w R := by
  refine StepOK.run (gv P I B) ?_ hR hT
  obtain ⟨c0, c1, c2⟩ := three_cells hc
  unfold execOp
  rw [ho]
  simp only [h1]
  clear hR hT hc h1 ho
  simp [go_sem, c0, c1, c2]
theorem stp_eqlG (hT : T w w) (x y : Operand) {u : TypeId} (ho : o.op = .binOp .eql 23 x y u) (P I B P' I' B' : Int) (h1 : a.eval x = gv P I B) (h2 : a.eval y = gv P' I' B') (hR : R (.bool (decide (P = P' ∧ I = I' ∧ B = B'))) w) : StepOK Tryd.prog T o a w R := by
  refine StepOK.run (.bool (decide (P = P' ∧ I = I' ∧ B = B'))) ?_ hR hT
  unfold execOp
  rw [ho]
  simp only [h1, h2]
  clear hR hT h1 h2 ho
  simp [go_sem]
  by_cases p : P = P' <;> by_cases q : I = I' <;> by_cases r : B = B' <;> simp [p, q, r]
theorem stp_eqlB (hT : T w w) (x y : Operand) {u : TypeId} (ho : o.op = .binOp .eql 4 x y u) (p q : Bool) (h1 : a.eval x = .bool p) (h2 : a.eval y = .bool q) (hR : R (.bool (p == q)) w) : StepOK Tryd.prog T o a w R := by
  refine StepOK.run (.bool (p == q)) ?_ hR hT
  unfold execOp
  rw [ho]
  simp only [h1, h2]
  clear hR hT h1 h2 ho
  simp [go_sem]
end
/-- Superblocks of two geometries, or two labels, are unlike. -/
theorem super_only {P I B h P' I' B' h' : Nat} (hf : Fits P I B h) (hf' : Fits P' I' B' h') : superL P I B h = superL P' I' B' h' ↔ P = P' ∧ I = I' ∧ B = B' ∧ h = h' := by
  constructor
  · intro e
    have e1 : (superL P I B h).getD 1 0 = (superL P' I' B' h').getD 1 0 := by rw [e]
    have e2 : fieldsW P I B h = fieldsW P' I' B' h' := e1
    obtain ⟨q1, q2, q3, q4⟩ := f_of hf
    obtain ⟨r1, r2, r3, r4⟩ := f_of hf'
    rw [e2] at q1 q2 q3 q4
    exact ⟨by omega, by omega, by omega, by omega⟩
  · rintro ⟨rfl, rfl, rfl, rfl⟩
    rfl
theorem hN_inj {x y : Bool} : hN x = hN y ↔ x = y := by cases x <;> cases y <;> decide
set_option maxRecDepth 100000 in
set_option maxHeartbeats 4000000 in
theorem only_good (a0 a1 a2 b0 b1 b2 : Nat) (x y : Bool) (w : World) (hga : GOK a0 a1 a2) (hgb : GOK b0 b1 b2) (hT : TabAt w) (hE : ErrAt w) :
    Calls Tryd.prog 6 #[gv a0 a1 a2, gv b0 b1 b2, .bool x, .bool y] w fun e w' => e = .returned (.bool true) ∧ Below w.heap.size w w' := by
  have HT := Lib.hid hT
  have HE := Lib.hid hE
  have hl1 : (superL a0 a1 a2 (hN x)).length = 8 := rfl
  have hl2 : (superL b0 b1 b2 (hN y)).length = 8 := rfl
  have hE1 := fun W hW => encode_ok a0 a1 a2 x W hga hW
  have hE2 := fun W hW => encode_ok b0 b1 b2 y W hgb hW
  have hsv : sameV (superL a0 a1 a2 (hN x)) (superL b0 b1 b2 (hN y)) = decide (((a0 : Int) = b0 ∧ (a1 : Int) = b1 ∧ (a2 : Int) = b2) ∧ x = y) := by
    unfold sameV
    refine decide_eq_decide.2 ((super_only (gok_fits hga) (gok_fits hgb)).trans ?_)
    rw [hN_inj]
    constructor
    · rintro ⟨h1, h2, h3, h⟩
      exact ⟨⟨by omega, by omega, by omega⟩, h⟩
    · rintro ⟨⟨h1, h2, h3⟩, h⟩
      exact ⟨by omega, by omega, by omega, h⟩
  generalize superL a0 a1 a2 (hN x) = l1 at *
  generalize superL b0 b1 b2 (hN y) = l2 at *
  have HE1 := Lib.hid hE1
  have HE2 := Lib.hid hE2
  have HL1 := Lib.hid hl1
  have HL2 := Lib.hid hl2
  have HSV := Lib.hid hsv
  clear hT hE hE1 hE2 hl1 hl2 hsv hga hgb
  go_enter Tryd.func6, Tryd.ntmps6
  go_wp2_with (fail)
  have hon : On w ((w.alloc (.cells #[.int .i64 (a0 : Nat), .int .i64 (a1 : Nat), .int .i64 (a2 : Nat)] 23)).alloc (.cells #[.int .i64 (b0 : Nat), .int .i64 (b1 : Nat), .int .i64 (b2 : Nat)] 23)) := ((Below.refl _ _).alloc (Nat.le_refl _) _).alloc (by simp) _
  have GB0 : ((w.alloc (.cells #[.int .i64 (a0 : Nat), .int .i64 (a1 : Nat), .int .i64 (a2 : Nat)] 23)).alloc (.cells #[.int .i64 (b0 : Nat), .int .i64 (b1 : Nat), .int .i64 (b2 : Nat)] 23)).heap[w.heap.size + 1]? = some (.cells #[.int .i64 (b0 : Nat), .int .i64 (b1 : Nat), .int .i64 (b2 : Nat)] 23) := by
    have := heap_alloc_new (w.alloc (.cells #[.int .i64 (a0 : Nat), .int .i64 (a1 : Nat), .int .i64 (a2 : Nat)] 23)) (.cells #[.int .i64 (b0 : Nat), .int .i64 (b1 : Nat), .int .i64 (b2 : Nat)] 23)
    rwa [World.size_alloc] at this
  have GA0 : ((w.alloc (.cells #[.int .i64 (a0 : Nat), .int .i64 (a1 : Nat), .int .i64 (a2 : Nat)] 23)).alloc (.cells #[.int .i64 (b0 : Nat), .int .i64 (b1 : Nat), .int .i64 (b2 : Nat)] 23)).heap[w.heap.size]? = some (.cells #[.int .i64 (a0 : Nat), .int .i64 (a1 : Nat), .int .i64 (a2 : Nat)] 23) :=
    (Below.heap_alloc _ _ _ (by simp)).trans (heap_alloc_new w _)
  refine (HE1.out _ (HT.out.below hon)).mono ?_
  rintro e w1 ⟨A1, c1, rfl, hr1, hf1, hb1, hc1⟩
  have bw1 := Below.trans hon (hb1.mono (Below.size hon))
  have GB1 := (hb1.block _ (by simp)).trans GB0
  have GA1 := (hb1.block _ (by simp; omega)).trans GA0
  obtain ⟨g0, g1, g2⟩ := three_cells GB1
  have hg := lt_of_cells GB1
  have GA1 := Lib.hid GA1
  have GB1h := Lib.hid GB1
  clear hb1 hon GB0 GA0 GB1
  rw [HL1.out]
  go_wp2_with (fail)
  refine (HE2.out _ (HT.out.below bw1)).mono ?_
  rintro e w2 ⟨A2, c2, rfl, hr2, hf2, hb2, hc2⟩
  rw [HL2.out]
  have bw2 := bw1.trans (hb2.mono bw1.size)
  have hr12 := hr1.below hb2
  have GB := Lib.hid ((hb2.block _ (lt_of_cells GB1h.out)).trans GB1h.out)
  have GA := Lib.hid ((hb2.block _ (lt_of_cells GA1.out)).trans GA1.out)
  have lA := lt_of_cells GA.out
  have lB := lt_of_cells GB.out
  have HTw := Lib.hid (HT.out.below bw2)
  have HEw := Lib.hid (HE.out.below bw2)
  have hSame := fun u (hu : On w2 u) => same_calls A1 A2 l1 l2 c1 c2 u (hr12.below hu) (hr2.below hu) (by rw [HL1.out]; decide) (by rw [HL2.out]; decide)
  rw [HL1.out, HL2.out, HSV.out] at hSame
  clear hb2 hr1 bw1 g0 g1 g2 hg GB1h GA1 hf1 hf2
  by_cases hab : (a0 : Int) = b0 ∧ (a1 : Int) = b1 ∧ (a2 : Int) = b2
  · have hq : Hid (decide ((a0 : Int) = b0 ∧ (a1 : Int) = b1 ∧ (a2 : Int) = b2) = true) := Lib.hid (decide_eq_true hab)
    have e : decide (((a0 : Int) = b0 ∧ (a1 : Int) = b1 ∧ (a2 : Int) = b2) ∧ x = y) = (x == y) := by
      cases x <;> cases y <;> simp [hab]
    rw [e] at hSame
    have HSame := Lib.hid hSame
    clear e hab hSame
    go_wp2_with (fail)
    refine wp_region_rel2 (E := fun _ => false) (s := 100) (T0 := On) (T := On) (R := sps 0 titledO [.val (.slice A1 8 c1), .val (.slice A2 8 c2), .val (.bool (x == y)), .val (gv a0 a1 a2), .val (gv b0 b1 b2), .val (.bool true), .val (.bool true), .val (.bool x), .val (.bool y), .val (.bool (x == y)), .val (.bool (x == y)), .val (.bool true), .val (.bool true), .val (.bool true), .val (.bool true), .val (.bool true)])
      (by kernel_rfl) (by kernel_rfl) On.refl On.trans (fun h => h) On.trans (fun i v w w' h k => Sp2.stable h (WrT.on k)) (sps_un (by kernel_rfl)) (On.drawn _) (by kernel_rfl) ?steps ?rest
    case steps =>
      refine ⟨?s0, ?s1, ?s2, ?s3, ?s4, ?s5, ?s6, ?s7, ?s8, ?s9, ?s10, ?s11, ?s12, ?s13, ?s14, ?s15, trivial⟩
      case s0 =>
        exact fun a u hT h0 hA hd => .inl ⟨rfl, StepOK.move (.tmp 9) rfl (hA.eval 9 rfl) (On.refl _)⟩
      case s1 =>
        exact fun a u hT h0 hA hd => .inl ⟨rfl, StepOK.move (.tmp 11) rfl (hA.eval 11 rfl) (On.refl _)⟩
      case s2 =>
        intro a u hT h0 hA hd
        refine .inl ⟨rfl, StepOK.call 10 #[.slice A1 8 c1, .slice A2 8 c2] ?_ ((HSame.out u hT).mono ?_)⟩
        · have e1 : a.eval (.tmp 32) = .slice A1 8 c1 := dep hd 0 32 rfl rfl
          have e2 : a.eval (.tmp 33) = .slice A2 8 c2 := dep hd 1 33 rfl rfl
          unfold execOp
          simp only [resolve, List.map_toArray, List.map_cons, List.map_nil, e1, e2]
          simp [go_sem]
        · rintro e u' ⟨rfl, m, rfl⟩
          exact ⟨_, rfl, rfl, below_drewN (Below.refl _ _) m⟩
      case s3 =>
        exact fun a u hT h0 hA hd => .inl ⟨rfl, stp_loadG (On.refl _) (.tmp 4) rfl w.heap.size _ _ _ (hA.eval 4 rfl) ((Below.block hT w.heap.size lA).trans GA.out) rfl⟩
      case s4 =>
        exact fun a u hT h0 hA hd => .inl ⟨rfl, stp_loadG (On.refl _) (.tmp 5) rfl (w.heap.size + 1) _ _ _ (hA.eval 5 rfl) ((Below.block hT (w.heap.size + 1) lB).trans GB.out) rfl⟩
      case s5 =>
        exact fun a u hT h0 hA hd => .inl ⟨rfl, stp_eqlG (On.refl _) (.tmp 35) (.tmp 36) rfl _ _ _ _ _ _ (dep hd 3 35 rfl rfl) (dep hd 4 36 rfl rfl) (by show Value.bool _ = _; rw [hq.out])⟩
      case s6 =>
        exact fun a u hT h0 hA hd => .inl ⟨rfl, StepOK.move (.tmp 37) rfl (dep hd 5 37 rfl rfl) (On.refl _)⟩
      case s7 =>
        exact fun a u hT h0 hA hd => .inl ⟨(wanted_of (g := 6) (want := true) (b := true) (d := 38) rfl rfl (dep hd 6 38 rfl rfl)).trans rfl, StepOK.move (.tmp 2) rfl (hA.eval 2 rfl) (On.refl _)⟩
      case s8 =>
        exact fun a u hT h0 hA hd => .inl ⟨(wanted_of (g := 6) (want := true) (b := true) (d := 38) rfl rfl (dep hd 6 38 rfl rfl)).trans rfl, StepOK.move (.tmp 3) rfl (hA.eval 3 rfl) (On.refl _)⟩
      case s9 =>
        exact fun a u hT h0 hA hd => .inl ⟨(wanted_of (g := 6) (want := true) (b := true) (d := 38) rfl rfl (dep hd 6 38 rfl rfl)).trans rfl, stp_eqlB (On.refl _) (.tmp 39) (.tmp 40) rfl x y (dep hd 7 39 rfl rfl) (dep hd 8 40 rfl rfl) rfl⟩
      case s10 =>
        exact fun a u hT h0 hA hd => .inl ⟨rfl, stp_pickT (On.refl _) (.tmp 38) (.tmp 41) (.const (.bool false)) rfl (dep hd 6 38 rfl rfl) (dep hd 9 41 rfl rfl)⟩
      case s11 =>
        exact fun a u hT h0 hA hd => .inl ⟨rfl, stp_eqlB (On.refl _) (.tmp 34) (.tmp 42) rfl (x == y) (x == y) (dep hd 2 34 rfl rfl) (dep hd 10 42 rfl rfl) (by show Value.bool _ = _; rw [beq_self_eq_true])⟩
      case s12 =>
        exact fun a u hT h0 hA hd => .inl ⟨rfl, StepOK.move (.tmp 43) rfl (dep hd 11 43 rfl rfl) (On.refl _)⟩
      case s13 =>
        intro a u hT h0 hA hd
        refine .inl ⟨(wanted_of (g := 12) (want := true) (b := true) (d := 44) rfl rfl (dep hd 12 44 rfl rfl)).trans rfl, StepOK.call 9 #[] ?_ ((alive_calls u (HTw.out.below hT) (HEw.out.below hT)).mono ?_)⟩
        · unfold execOp
          simp [go_sem]
        · rintro e u' ⟨rfl, hb⟩
          exact ⟨_, rfl, rfl, hb⟩
      case s14 =>
        exact fun a u hT h0 hA hd => .inl ⟨rfl, stp_pickT (On.refl _) (.tmp 44) (.tmp 45) (.const (.bool false)) rfl (dep hd 12 44 rfl rfl) (dep hd 13 45 rfl rfl)⟩
      case s15 =>
        exact fun a u hT h0 hA hd => .inl ⟨rfl, StepOK.assign (.tmp 46) rfl (dep hd 14 46 rfl rfl) (On.refl _)⟩
    case rest =>
      intro vs u hT hR
      have h15 : vs 15 = .bool true := hR 15 (by decide)
      simp only [putsFrom, Act.put, List.setIfInBounds_toArray, List.set_cons_succ, List.set_cons_zero, h15]
      clear hR
      go_wp2_with (fail)
      go_ret
      exact ⟨rfl, bw2.trans (Below.mono hT bw2.size)⟩
  · have hq : Hid (decide ((a0 : Int) = b0 ∧ (a1 : Int) = b1 ∧ (a2 : Int) = b2) = false) := Lib.hid (decide_eq_false hab)
    have e : decide (((a0 : Int) = b0 ∧ (a1 : Int) = b1 ∧ (a2 : Int) = b2) ∧ x = y) = false := decide_eq_false fun h => hab h.1
    rw [e] at hSame
    have HSame := Lib.hid hSame
    clear e hab hSame
    go_wp2_with (fail)
    refine wp_region_rel2 (E := fun _ => false) (s := 100) (T0 := On) (T := On) (R := sps 0 titledO [.val (.slice A1 8 c1), .val (.slice A2 8 c2), .val (.bool false), .val (gv a0 a1 a2), .val (gv b0 b1 b2), .val (.bool false), .val (.bool false), .any, .any, .any, .val (.bool false), .val (.bool true), .val (.bool true), .val (.bool true), .val (.bool true), .val (.bool true)])
      (by kernel_rfl) (by kernel_rfl) On.refl On.trans (fun h => h) On.trans (fun i v w w' h k => Sp2.stable h (WrT.on k)) (sps_un (by kernel_rfl)) (On.drawn _) (by kernel_rfl) ?steps ?rest
    case steps =>
      refine ⟨?s0, ?s1, ?s2, ?s3, ?s4, ?s5, ?s6, ?s7, ?s8, ?s9, ?s10, ?s11, ?s12, ?s13, ?s14, ?s15, trivial⟩
      case s0 =>
        exact fun a u hT h0 hA hd => .inl ⟨rfl, StepOK.move (.tmp 9) rfl (hA.eval 9 rfl) (On.refl _)⟩
      case s1 =>
        exact fun a u hT h0 hA hd => .inl ⟨rfl, StepOK.move (.tmp 11) rfl (hA.eval 11 rfl) (On.refl _)⟩
      case s2 =>
        intro a u hT h0 hA hd
        refine .inl ⟨rfl, StepOK.call 10 #[.slice A1 8 c1, .slice A2 8 c2] ?_ ((HSame.out u hT).mono ?_)⟩
        · have e1 : a.eval (.tmp 32) = .slice A1 8 c1 := dep hd 0 32 rfl rfl
          have e2 : a.eval (.tmp 33) = .slice A2 8 c2 := dep hd 1 33 rfl rfl
          unfold execOp
          simp only [resolve, List.map_toArray, List.map_cons, List.map_nil, e1, e2]
          simp [go_sem]
        · rintro e u' ⟨rfl, m, rfl⟩
          exact ⟨_, rfl, rfl, below_drewN (Below.refl _ _) m⟩
      case s3 =>
        exact fun a u hT h0 hA hd => .inl ⟨rfl, stp_loadG (On.refl _) (.tmp 4) rfl w.heap.size _ _ _ (hA.eval 4 rfl) ((Below.block hT w.heap.size lA).trans GA.out) rfl⟩
      case s4 =>
        exact fun a u hT h0 hA hd => .inl ⟨rfl, stp_loadG (On.refl _) (.tmp 5) rfl (w.heap.size + 1) _ _ _ (hA.eval 5 rfl) ((Below.block hT (w.heap.size + 1) lB).trans GB.out) rfl⟩
      case s5 =>
        exact fun a u hT h0 hA hd => .inl ⟨rfl, stp_eqlG (On.refl _) (.tmp 35) (.tmp 36) rfl _ _ _ _ _ _ (dep hd 3 35 rfl rfl) (dep hd 4 36 rfl rfl) (by show Value.bool _ = _; rw [hq.out])⟩
      case s6 =>
        exact fun a u hT h0 hA hd => .inl ⟨rfl, StepOK.move (.tmp 37) rfl (dep hd 5 37 rfl rfl) (On.refl _)⟩
      case s7 =>
        exact fun a u hT h0 hA hd => .inr ⟨(wanted_of (g := 6) (want := true) (b := false) (d := 38) rfl rfl (dep hd 6 38 rfl rfl)).trans rfl, trivial⟩
      case s8 =>
        exact fun a u hT h0 hA hd => .inr ⟨(wanted_of (g := 6) (want := true) (b := false) (d := 38) rfl rfl (dep hd 6 38 rfl rfl)).trans rfl, trivial⟩
      case s9 =>
        exact fun a u hT h0 hA hd => .inr ⟨(wanted_of (g := 6) (want := true) (b := false) (d := 38) rfl rfl (dep hd 6 38 rfl rfl)).trans rfl, trivial⟩
      case s10 =>
        exact fun a u hT h0 hA hd => .inl ⟨rfl, stp_pickF (On.refl _) (.tmp 38) (.tmp 41) (.const (.bool false)) rfl (dep hd 6 38 rfl rfl) rfl⟩
      case s11 =>
        exact fun a u hT h0 hA hd => .inl ⟨rfl, stp_eqlB (On.refl _) (.tmp 34) (.tmp 42) rfl false false (dep hd 2 34 rfl rfl) (dep hd 10 42 rfl rfl) (by show Value.bool _ = _; rw [beq_self_eq_true])⟩
      case s12 =>
        exact fun a u hT h0 hA hd => .inl ⟨rfl, StepOK.move (.tmp 43) rfl (dep hd 11 43 rfl rfl) (On.refl _)⟩
      case s13 =>
        intro a u hT h0 hA hd
        refine .inl ⟨(wanted_of (g := 12) (want := true) (b := true) (d := 44) rfl rfl (dep hd 12 44 rfl rfl)).trans rfl, StepOK.call 9 #[] ?_ ((alive_calls u (HTw.out.below hT) (HEw.out.below hT)).mono ?_)⟩
        · unfold execOp
          simp [go_sem]
        · rintro e u' ⟨rfl, hb⟩
          exact ⟨_, rfl, rfl, hb⟩
      case s14 =>
        exact fun a u hT h0 hA hd => .inl ⟨rfl, stp_pickT (On.refl _) (.tmp 44) (.tmp 45) (.const (.bool false)) rfl (dep hd 12 44 rfl rfl) (dep hd 13 45 rfl rfl)⟩
      case s15 =>
        exact fun a u hT h0 hA hd => .inl ⟨rfl, StepOK.assign (.tmp 46) rfl (dep hd 14 46 rfl rfl) (On.refl _)⟩
    case rest =>
      intro vs u hT hR
      have h15 : vs 15 = .bool true := hR 15 (by decide)
      simp only [putsFrom, Act.put, List.setIfInBounds_toArray, List.set_cons_succ, List.set_cons_zero, h15]
      clear hR
      go_wp2_with (fail)
      go_ret
      exact ⟨rfl, bw2.trans (Below.mono hT bw2.size)⟩
set_option maxRecDepth 100000 in
set_option maxHeartbeats 1000000 in
theorem only_bb (a0 a1 a2 : Int) (b0 b1 b2 : Int) (x y : Bool) (w : World) (hga : ¬ GOK a0 a1 a2) (hgb : ¬ GOK b0 b1 b2) (hT : TabAt w) (hE : ErrAt w) :
    Calls Tryd.prog 6 #[gv a0 a1 a2, gv b0 b1 b2, .bool x, .bool y] w fun e w' => e = .returned (.bool true) ∧ Below w.heap.size w w' := by
  have HT := Lib.hid hT
  have HE := Lib.hid hE
  have HA := Lib.hid hga
  have HB := Lib.hid hgb
  clear hT hE hga hgb
  go_enter Tryd.func6, Tryd.ntmps6
  go_wp2_with (fail)
  have hon : On w ((w.alloc (.cells #[.int .i64 (a0 : Int), .int .i64 a1, .int .i64 a2] 23)).alloc (.cells #[.int .i64 b0, .int .i64 b1, .int .i64 b2] 23)) := ((Below.refl _ _).alloc (Nat.le_refl _) _).alloc (by simp) _
  have GB0 : ((w.alloc (.cells #[.int .i64 (a0 : Int), .int .i64 a1, .int .i64 a2] 23)).alloc (.cells #[.int .i64 b0, .int .i64 b1, .int .i64 b2] 23)).heap[w.heap.size + 1]? = some (.cells #[.int .i64 b0, .int .i64 b1, .int .i64 b2] 23) := by
    have := heap_alloc_new (w.alloc (.cells #[.int .i64 (a0 : Int), .int .i64 a1, .int .i64 a2] 23)) (.cells #[.int .i64 b0, .int .i64 b1, .int .i64 b2] 23)
    rwa [World.size_alloc] at this
  refine (encode_bad a0 a1 a2 x _ HA.out).mono ?_
  rintro e w1 ⟨rfl, hb1⟩
  have bw1 := Below.trans hon (hb1.mono (Below.size hon))
  have GB1 := (hb1.block _ (by simp)).trans GB0
  obtain ⟨g0, g1, g2⟩ := three_cells GB1
  have hg := lt_of_cells GB1
  clear hb1 hon GB0 GB1
  go_wp2_with (fail)
  refine (encode_bad b0 b1 b2 y _ HB.out).mono ?_
  rintro e w2 ⟨rfl, hb2⟩
  have bw2 := bw1.trans (hb2.mono bw1.size)
  clear hb2 g0 g1 g2 hg
  go_wp2_with (fail)
  refine (alive_calls _ (HT.out.below bw2) (HE.out.below bw2)).mono ?_
  rintro e w3 ⟨rfl, hb3⟩
  go_wp2_with (fail)
  go_ret
  exact ⟨rfl, bw2.trans (hb3.mono bw2.size)⟩
set_option maxRecDepth 100000 in
set_option maxHeartbeats 1000000 in
theorem only_bg (a0 a1 a2 : Int) (b0 b1 b2 : Nat) (x y : Bool) (w : World) (hga : ¬ GOK a0 a1 a2) (hgb : GOK b0 b1 b2) (hT : TabAt w) (hE : ErrAt w) :
    Calls Tryd.prog 6 #[gv a0 a1 a2, gv b0 b1 b2, .bool x, .bool y] w fun e w' => e = .returned (.bool true) ∧ Below w.heap.size w w' := by
  have HT := Lib.hid hT
  have HE := Lib.hid hE
  have HA := Lib.hid hga
  have HB := Lib.hid hgb
  clear hT hE hga hgb
  go_enter Tryd.func6, Tryd.ntmps6
  go_wp2_with (fail)
  have hon : On w ((w.alloc (.cells #[.int .i64 (a0 : Int), .int .i64 a1, .int .i64 a2] 23)).alloc (.cells #[.int .i64 b0, .int .i64 b1, .int .i64 b2] 23)) := ((Below.refl _ _).alloc (Nat.le_refl _) _).alloc (by simp) _
  have GB0 : ((w.alloc (.cells #[.int .i64 (a0 : Int), .int .i64 a1, .int .i64 a2] 23)).alloc (.cells #[.int .i64 b0, .int .i64 b1, .int .i64 b2] 23)).heap[w.heap.size + 1]? = some (.cells #[.int .i64 b0, .int .i64 b1, .int .i64 b2] 23) := by
    have := heap_alloc_new (w.alloc (.cells #[.int .i64 (a0 : Int), .int .i64 a1, .int .i64 a2] 23)) (.cells #[.int .i64 b0, .int .i64 b1, .int .i64 b2] 23)
    rwa [World.size_alloc] at this
  refine (encode_bad a0 a1 a2 x _ HA.out).mono ?_
  rintro e w1 ⟨rfl, hb1⟩
  have bw1 := Below.trans hon (hb1.mono (Below.size hon))
  have GB1 := (hb1.block _ (by simp)).trans GB0
  obtain ⟨g0, g1, g2⟩ := three_cells GB1
  have hg := lt_of_cells GB1
  clear hb1 hon GB0 GB1
  go_wp2_with (fail)
  refine (encode_ok b0 b1 b2 y _ HB.out (HT.out.below bw1)).mono ?_
  rintro e w2 ⟨A2, c2, rfl, hr2, hf2, hb2, hc2⟩
  clear hr2 hf2 hc2
  generalize (superL b0 b1 b2 (hN y)).length = n2 at *
  have bw2 := bw1.trans (hb2.mono bw1.size)
  clear hb2 g0 g1 g2 hg
  go_wp2_with (fail)
  refine (alive_calls _ (HT.out.below bw2) (HE.out.below bw2)).mono ?_
  rintro e w3 ⟨rfl, hb3⟩
  go_wp2_with (fail)
  go_ret
  exact ⟨rfl, bw2.trans (hb3.mono bw2.size)⟩
set_option maxRecDepth 100000 in
set_option maxHeartbeats 1000000 in
theorem only_gb (a0 a1 a2 : Nat) (b0 b1 b2 : Int) (x y : Bool) (w : World) (hga : GOK a0 a1 a2) (hgb : ¬ GOK b0 b1 b2) (hT : TabAt w) (hE : ErrAt w) :
    Calls Tryd.prog 6 #[gv a0 a1 a2, gv b0 b1 b2, .bool x, .bool y] w fun e w' => e = .returned (.bool true) ∧ Below w.heap.size w w' := by
  have HT := Lib.hid hT
  have HE := Lib.hid hE
  have HA := Lib.hid hga
  have HB := Lib.hid hgb
  clear hT hE hga hgb
  go_enter Tryd.func6, Tryd.ntmps6
  go_wp2_with (fail)
  have hon : On w ((w.alloc (.cells #[.int .i64 (a0 : Nat), .int .i64 a1, .int .i64 a2] 23)).alloc (.cells #[.int .i64 b0, .int .i64 b1, .int .i64 b2] 23)) := ((Below.refl _ _).alloc (Nat.le_refl _) _).alloc (by simp) _
  have GB0 : ((w.alloc (.cells #[.int .i64 (a0 : Nat), .int .i64 a1, .int .i64 a2] 23)).alloc (.cells #[.int .i64 b0, .int .i64 b1, .int .i64 b2] 23)).heap[w.heap.size + 1]? = some (.cells #[.int .i64 b0, .int .i64 b1, .int .i64 b2] 23) := by
    have := heap_alloc_new (w.alloc (.cells #[.int .i64 (a0 : Nat), .int .i64 a1, .int .i64 a2] 23)) (.cells #[.int .i64 b0, .int .i64 b1, .int .i64 b2] 23)
    rwa [World.size_alloc] at this
  refine (encode_ok a0 a1 a2 x _ HA.out (HT.out.below hon)).mono ?_
  rintro e w1 ⟨A1, c1, rfl, hr1, hf1, hb1, hc1⟩
  have bw1 := Below.trans hon (hb1.mono (Below.size hon))
  have GB1 := (hb1.block _ (by simp)).trans GB0
  obtain ⟨g0, g1, g2⟩ := three_cells GB1
  have hg := lt_of_cells GB1
  clear hb1 hon GB0 GB1
  clear hr1 hf1 hc1
  generalize (superL a0 a1 a2 (hN x)).length = n1 at *
  go_wp2_with (fail)
  refine (encode_bad b0 b1 b2 y _ HB.out).mono ?_
  rintro e w2 ⟨rfl, hb2⟩
  have bw2 := bw1.trans (hb2.mono bw1.size)
  clear hb2 g0 g1 g2 hg
  go_wp2_with (fail)
  refine (alive_calls _ (HT.out.below bw2) (HE.out.below bw2)).mono ?_
  rintro e w3 ⟨rfl, hb3⟩
  go_wp2_with (fail)
  go_ret
  exact ⟨rfl, bw2.trans (hb3.mono bw2.size)⟩
theorem superonly_calls (a0 a1 a2 b0 b1 b2 : Int) (x y : Bool) (w : World) (hT : TabAt w) (hE : ErrAt w) :
    Calls Tryd.prog 6 #[gv a0 a1 a2, gv b0 b1 b2, .bool x, .bool y] w fun e w' => e = .returned (.bool true) ∧ Below w.heap.size w w' := by
  by_cases ha : GOK a0 a1 a2
  · obtain ⟨p, q, r, rfl, rfl, rfl⟩ := gok_nat ha
    by_cases hb : GOK b0 b1 b2
    · obtain ⟨p', q', r', rfl, rfl, rfl⟩ := gok_nat hb
      exact only_good p q r p' q' r' x y w ha hb hT hE
    · exact only_gb p q r b0 b1 b2 x y w ha hb hT hE
  · by_cases hb : GOK b0 b1 b2
    · obtain ⟨p', q', r', rfl, rfl, rfl⟩ := gok_nat hb
      exact only_bg a0 a1 a2 p' q' r' x y w ha hb hT hE
    · exact only_bb a0 a1 a2 b0 b1 b2 x y w ha hb hT hE
end Go.Proofs.YtgedahjifbopcaaDoor
