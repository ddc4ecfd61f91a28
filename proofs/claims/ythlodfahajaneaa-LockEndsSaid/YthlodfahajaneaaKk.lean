/- All come to hold what they wait for, each lock's in their order: the law. -/
import Derived.Test.YthlodfahajaneaaKx
import Derived.Test.YthlodfahajaneaaKw
import Derived.Deep.DeepCutAuto
import Derived.BigQuiet
set_option linter.unusedSimpArgs false
set_option linter.unusedVariables false
namespace Go.Proofs.Ythlodfahajaneaa
open Go Go.RowKit LockMath Go.Shelf
theorem tell_none {g q : List Int} (h : q.head? = none) : LockMath.tell g q = g := by unfold LockMath.tell; rw [h]
theorem tell_add {g q : List Int} {x : Int} (h : q.head? = some x) (hc : g = [] ∨ g.getLast? ≠ some x) : LockMath.tell g q = g ++ [x] := by
  unfold LockMath.tell; rw [h]
  exact if_pos hc
theorem tell_same {g q : List Int} {x : Int} (h : q.head? = some x) (h1 : g.getLast? = some x) : LockMath.tell g q = g := by
  unfold LockMath.tell; rw [h]
  refine if_neg ?_
  rintro (hc | hc)
  · rw [hc] at h1; cases h1
  · exact hc h1
theorem last_at {g : List Int} {k : Nat} (h : g.length = k + 1) : g.getLast? = some (g.getD k 0) := by
  rw [List.getLast?_eq_getElem?, List.getD_eq_getElem?_getD, h, Nat.add_sub_cancel, List.getElem?_eq_getElem (by omega)]; rfl
set_option maxRecDepth 100000 in
set_option maxHeartbeats 4000000 in
theorem ends_law (w : World) (A0 : Option Addr) (l : List St) (c : Nat) (hr : SRow w A0 l) (hlen : l.length ≤ 9223372036854775807) :
    Calls Try.prog 5 #[.slice A0 l.length c] w fun e w' => e = .returned (.bool true) ∧ Below w.heap.size w w' := by
  have CM := Lib.hid (made_calls w A0 l c hr hlen)
  obtain ⟨N, hN⟩ : ∃ N, l.length = N := ⟨_, rfl⟩
  rw [hN] at hlen CM ⊢
  clear hr hN
  by_cases hbig : 200 < N
  · have hbig2 : (200 : Int) < (N : Int) := by omega
    go_enter Try.func5, Try.ntmps5
    go_wp2_with (fail)
    refine (alive_calls _).mono ?_
    rintro e w' ⟨rfl, hb⟩
    replace hb := Lib.hid hb
    go_wp2_with (fail)
    go_ret
    exact ⟨rfl, hb.out⟩
  have hsm : ¬ ((200 : Int) < (N : Int)) := by omega
  clear hbig
  go_enter Try.func5, Try.ntmps5
  go_wp2_with (fail)
  refine CM.out.mono ?_
  rintro e w1 ⟨T, G, As, Q, rfl, h1, hQ⟩
  replace h1 := Lib.hid h1
  have HQ := Lib.hid hQ
  have HNM := Lib.hid h1.out.tb.nm
  clear CM hQ
  obtain ⟨i0, hi0, hz0, hs0, hb0⟩ := info_parts i64_info
  have HI := Lib.hid hi0
  have HZ := Lib.hid hz0
  have HS := Lib.hid hs0
  have HB := Lib.hid hb0
  clear hi0 hz0 hs0 hb0
  go_wp2_with (fail)
  have HE0 := Lib.hid (Eg.start h1.out (cs := #[.slice none 0 0, .slice none 0 0, .slice none 0 0, .slice none 0 0, .slice none 0 0, .slice none 0 0, .slice none 0 0, .slice none 0 0, .slice none 0 0, .slice none 0 0, .slice none 0 0, .slice none 0 0]) (cs' := #[.slice none 0 0, .slice none 0 0, .slice none 0 0, .slice none 0 0, .slice none 0 0, .slice none 0 0, .slice none 0 0, .slice none 0 0, .slice none 0 0, .slice none 0 0, .slice none 0 0, .slice none 0 0]) rfl rfl)
  have hgs : (w1.alloc (.cells #[.slice none 0 0, .slice none 0 0, .slice none 0 0, .slice none 0 0, .slice none 0 0, .slice none 0 0, .slice none 0 0, .slice none 0 0, .slice none 0 0, .slice none 0 0, .slice none 0 0, .slice none 0 0] 43)).heap.size = w1.heap.size + 1 := by simp
  rw [hgs] at HE0
  clear hgs
  obtain ⟨B0, hB0⟩ : ∃ B0, B0 = List.replicate 12 ((none, 0) : Option Addr × Nat) := ⟨_, rfl⟩
  obtain ⟨W0, hW0⟩ : ∃ W0, W0 = List.replicate 12 ([] : List Int) := ⟨_, rfl⟩
  have HW0 : Hid (W0.length = 12) := Lib.hid (by rw [hW0]; rfl)
  have HWE : Hid (∀ j, qu W0 j = []) := Lib.hid (fun j => by
    rw [hW0]
    unfold qu
    rw [List.getD_eq_getElem?_getD, List.getElem?_replicate]
    split <;> rfl)
  rw [← hB0, ← hW0] at HE0
  clear hB0 hW0 h1
  generalize (w1.alloc _).alloc _ = V at HE0 ⊢
  generalize w1.heap.size + 1 = gK at *
  generalize w1.heap.size = gO at *
  go_loopg [6] 12 (fun g s6 wx => ∃ (id : Nat) (Bo : List (Option Addr × Nat)) (O : List (List Int)), id + g = 12 ∧ s6 = .int .i64 id ∧ Hid (Eg w wx T G As gO Bo gK B0 Q O W0) ∧ Hid (O.length = 12) ∧ Hid (∀ j, j < id → qu O j = qu Q j))
  case atStart => exact ⟨0, B0, W0, by omega, rfl, HE0, HW0, Lib.hid (fun j hj => absurd hj (Nat.not_lt_zero _))⟩
  case round =>
    obtain ⟨id, Bo, O, hidg, rfl, HE, HOL, HOQ⟩ := hrel
    clear HE0
    cases gk with
    | succ g =>
      have hid : id < 12 := by omega
      have hid2 : (id : Int) < 12 := by omega
      go_wp2_with (fail)
      refine (queue_calls HE.out.lk.tb (id : Int)).mono ?_
      rw [queueL_nat]
      rintro e w2 ⟨R, cr, rfl, hO, hb2⟩
      have hA2 := HE.out.below hb2
      have y0 := hA2.qo.cell (i := id) (by rw [HOL.out]; exact hid)
      have hfz := hA2.qo.frozen id
      have HP := Lib.hid (HE.out.put (i := id) (by rw [HOL.out]; exact hid) hO hb2 rfl)
      have HL2 : Hid ((O.set id (qu Q id)).length = 12) := Lib.hid (by rw [List.length_set]; exact HOL.out)
      have HQ2 : Hid (∀ j, j < id + 1 → qu (O.set id (qu Q id)) j = qu Q j) := Lib.hid (fun j hj => by
        rw [qu_set]
        by_cases hij : id = j
        · rw [if_pos ⟨hij, by rw [HOL.out]; omega⟩, hij]
        · rw [if_neg (fun h => hij h.1)]
          exact HOQ.out j (by omega))
      generalize (qu O id).length = L9 at *
      generalize qA Bo id = A9 at *
      generalize qC Bo id = C9 at *
      generalize (qu Q id).length = L8 at *
      clear hA2 hO hb2
      go_wp2_with (fail)
      go_roundg g
      case measure => omega
      case rel => exact ⟨id + 1, _, _, by omega, by go_num, HP, HL2, HQ2⟩
    | zero =>
      obtain rfl : id = 12 := by omega
      have HTU0 : Hid (∀ j, j < 12 → TU Q Q W0 j) := Lib.hid (fun j hj => ⟨[], by rw [HWE.out]; exact Tale.start (HNM.out.inv.once j)⟩)
      have HCN0 : Hid (cntT Q 8 + 0 ≤ 8) := Lib.hid (cnt_le Q 8)
      generalize hQ0 : Q = Q0 at HTU0 HOQ HNM
      have HTU0 : Hid (∀ j, j < 12 → TU Q0 Q W0 j) := Lib.hid (by rw [hQ0]; exact HTU0.out)
      have HNQ0 : Hid (Nm 8 Q) := Lib.hid (by rw [hQ0]; exact HNM.out)
      clear hQ0
      go_wp2_with (fail)
      go_loopg [7] 9 (fun g s7 wx => ∃ (r : Nat) (As Bk : List (Option Addr × Nat)) (Q K : List (List Int)), r + g = 9 ∧ s7 = .int .i64 r ∧ Hid (Eg w wx T G As gO Bo gK Bk Q O K) ∧ Hid (Q.length = 12) ∧ Hid (K.length = 12) ∧ Hid (∀ j, j < 12 → TU Q0 Q K j) ∧ Hid (cntT Q 8 + r ≤ 8))
      case atStart => exact ⟨0, As, B0, Q, W0, by omega, rfl, HE, HQ, HW0, HTU0, HCN0⟩
      case round =>
        clear HE HQ HW0 HTU0 HCN0 HNQ0 HWE
        obtain ⟨r, As, Bk, Q, K, hrg, rfl, HE, HQL, HKL, HTU, HCN⟩ := hrel
        have hr8 : r ≤ 8 := by have := HCN.out; omega
        have hr9 : (r : Int) < 9 := by omega
        have HNQ := Lib.hid HE.out.lk.tb.nm
        cases gk with
        | zero => exact absurd hrg (by omega)
        | succ g =>
          go_wp2_with (fail)
          go_loopg [8] 12 (fun g s8 wx => ∃ (id : Nat) (Bk : List (Option Addr × Nat)) (K : List (List Int)), id + g = 12 ∧ s8 = .int .i64 id ∧ Hid (Eg w wx T G As gO Bo gK Bk Q O K) ∧ Hid (K.length = 12) ∧ Hid (∀ j, j < 12 → if j < id then TD Q0 Q K j else TU Q0 Q K j))
          case atStart => exact ⟨0, Bk, K, by omega, rfl, HE, HKL, Lib.hid (fun j hj => by rw [if_neg (Nat.not_lt_zero _)]; exact HTU.out j hj)⟩
          case round =>
            clear HE HKL HTU
            obtain ⟨id, Bk, K, hidg, rfl, HE, HKL, HST⟩ := hrel
            cases gk with
            | zero =>
              obtain rfl : id = 12 := by omega
              have HTD : Hid (∀ j, j < 12 → TD Q0 Q K j) := Lib.hid (fun j hj => by
                have := HST.out j hj
                rwa [if_pos hj] at this)
              have HE3 := HE
              clear HE HST
              go_wp2_with (fail)
              go_loopg [11, 12] 8 (fun g s11 s12 wx => ∃ (k : Nat) (f : Int), k + g = 8 ∧ s12 = .int .i64 k ∧ s11 = .int .i64 f ∧ Hid ((f = -1 ∧ ∀ j : Nat, j < k → okF Q (j : Int) = false) ∨ (0 ≤ f ∧ f < 8 ∧ okF Q f = true)) ∧ Hid (Eg w wx T G As gO Bo gK Bk Q O K))
              case atStart => exact ⟨0, -1, by omega, rfl, rfl, Lib.hid (.inl ⟨rfl, fun j hj => absurd hj (Nat.not_lt_zero _)⟩), HE3⟩
              case round =>
                obtain ⟨k, f, hkg, rfl, rfl, hf, HE⟩ := hrel
                clear HE3
                cases gk with
                | succ g4 =>
                  have hk8 : k < 8 := by omega
                  go_wp2_with (fail)
                  refine (waits_calls HE.out.lk.tb (k : Int)).mono ?_
                  rintro e w' ⟨rfl, rfl⟩
                  cases hw : waitsF Q (k : Int) with
                  | some v =>
                    have hno : Hid (okF Q (k : Int) = false) := Lib.hid (by unfold okF; rw [hw]; rfl)
                    have hf2 : Hid ((f = -1 ∧ ∀ j : Nat, j < k + 1 → okF Q (j : Int) = false) ∨ (0 ≤ f ∧ f < 8 ∧ okF Q f = true)) := Lib.hid (hf.out.imp (fun h => ⟨h.1, fun j hj => by
                      rcases Nat.lt_or_ge j k with h1 | h1
                      · exact h.2 j h1
                      · obtain rfl : j = k := by omega
                        exact hno.out⟩) id)
                    rw [show twoN (some v) = .tuple #[.int .i64 (v : Int), .bool true] from rfl]
                    clear hw
                    go_wp2_with (fail)
                    go_roundg g4
                    case measure => omega
                    case rel => exact ⟨k + 1, f, by omega, by go_num, rfl, hf2, HE⟩
                  | none =>
                    have HWN := Lib.hid hw
                    rw [show twoN none = .tuple #[.int .i64 0, .bool false] from rfl]
                    clear hw
                    go_wp2_with (fail)
                    refine (holds_calls HE.out.lk.tb (k : Int)).mono ?_
                    rintro e w3 ⟨R3, c3, rfl, _, hb3⟩
                    have HE2 := Lib.hid (HE.out.below hb3)
                    clear hb3
                    have hok : Hid (okF Q (k : Int) = decide (0 < (ni (holdsL Q (k : Int))).length)) := Lib.hid (by unfold okF; rw [HWN.out, ni_len]; rfl)
                    have hM12 : (ni (holdsL Q (k : Int))).length ≤ 12 := by rw [ni_len]; exact Nat.le_trans (holds_len Q _) (by rw [HQL.out]; omega)
                    generalize (ni (holdsL Q (k : Int))).length = M at *
                    by_cases hM : M = 0
                    · subst hM
                      have hf2 : Hid ((f = -1 ∧ ∀ j : Nat, j < k + 1 → okF Q (j : Int) = false) ∨ (0 ≤ f ∧ f < 8 ∧ okF Q f = true)) := Lib.hid (hf.out.imp (fun h => ⟨h.1, fun j hj => by
                        rcases Nat.lt_or_ge j k with h1 | h1
                        · exact h.2 j h1
                        · obtain rfl : j = k := by omega
                          exact hok.out⟩) id)
                      go_wp2_with (fail)
                      go_roundg g4
                      case measure => omega
                      case rel => exact ⟨k + 1, f, by omega, by go_num, rfl, hf2, HE2⟩
                    · have hM1 : (0 : Int) < (M : Int) := by omega
                      have hf2 : Hid (((k : Int) = -1 ∧ ∀ j : Nat, j < k + 1 → okF Q (j : Int) = false) ∨ (0 ≤ (k : Int) ∧ (k : Int) < 8 ∧ okF Q (k : Int) = true)) := Lib.hid (.inr ⟨by omega, by omega, by rw [hok.out]; exact decide_eq_true (by omega)⟩)
                      clear hM
                      go_wp2_with (fail)
                      go_roundg g4
                      case measure => omega
                      case rel => exact ⟨k + 1, _, by omega, by go_num, rfl, hf2, HE2⟩
                | zero =>
                  obtain rfl : k = 8 := by omega
                  by_cases hneg : f < 0
                  · have HEM : Hid (∀ j, qu Q j = []) := Lib.hid (fun j => by
                      rcases hf.out with h | h
                      · exact none_left HNQ.out h.2 j
                      · omega)
                    have HDN : Hid (∀ j, j < 12 → qu K j = qu Q0 j) := Lib.hid (fun j hj => (HTD.out j hj).done (HEM.out j))
                    have HEN := HE
                    clear HTD HCN hf
                    go_wp2_with (fail)
                    go_loopg [15] 12 (fun g s15 wx => ∃ id : Nat, id + g = 12 ∧ s15 = .int .i64 id ∧ Hid (Eg w wx T G As gO Bo gK Bk Q O K))
                    case atStart => exact ⟨0, by omega, rfl, HEN⟩
                    case round =>
                      obtain ⟨id, hidg, rfl, HA3⟩ := hrel
                      clear HEN
                      cases gk with
                      | zero =>
                        go_wp2_with (fail)
                        refine (alive_calls _).mono ?_
                        rintro e w' ⟨rfl, hb⟩
                        replace hb := Lib.hid (HA3.out.lk.on.trans (hb.mono HA3.out.lk.on.size))
                        go_wp2_with (fail)
                        go_ret
                        exact ⟨rfl, hb.out⟩
                      | succ g =>
                        have hid : id < 12 := by omega
                        have hid2 : (id : Int) < 12 := by omega
                        obtain ⟨N1, hN1⟩ : ∃ N1, (qu Q0 id).length = N1 := ⟨_, rfl⟩
                        have HN1 := Lib.hid hN1
                        have HEQ := Lib.hid (HEM.out id)
                        have HL16 : Hid ((qu Q0 id).length ≤ 1000) := Lib.hid (Nat.le_trans (HNM.out.len id) (by decide))
                        have HCK : Hid (∀ u, Eg w u T G As gO Bo gK Bk Q O K → u.cell? ⟨gK, id, none⟩ = some (.slice (qA Bk id) N1 (qC Bk id))) := Lib.hid (fun u h => by
                          have := h.qk.cell (i := id) (by rw [HKL.out]; exact hid)
                          rwa [HDN.out id hid, HN1.out] at this)
                        have HCO : Hid (∀ u, Eg w u T G As gO Bo gK Bk Q O K → u.cell? ⟨gO, id, none⟩ = some (.slice (qA Bo id) N1 (qC Bo id))) := Lib.hid (fun u h => by
                          have := h.qo.cell (i := id) (by rw [HOL.out]; exact hid)
                          rwa [HOQ.out id hid, HN1.out] at this)
                        have HRK : Hid (∀ u, Eg w u T G As gO Bo gK Bk Q O K → RowAt (qu Q0 id) (.slice (qA Bk id) N1 (qC Bk id)) u) := Lib.hid (fun u h => by
                          have := h.qk.row (i := id) (by rw [HKL.out]; exact hid)
                          rw [HDN.out id hid] at this
                          exact ⟨_, _, by rw [HN1.out], this⟩)
                        have HRO : Hid (∀ u, Eg w u T G As gO Bo gK Bk Q O K → RowAt (qu Q0 id) (.slice (qA Bo id) N1 (qC Bo id)) u) := Lib.hid (fun u h => by
                          have := h.qo.row (i := id) (by rw [HOL.out]; exact hid)
                          rw [HOQ.out id hid] at this
                          exact ⟨_, _, by rw [HN1.out], this⟩)
                        have HAD : Hid (Eg w wr.drew T G As gO Bo gK Bk Q O K) := Lib.hid (HA3.out.below (Below.refl _ _).drew)
                        clear hN1
                        go_wp2_with (fail)
                        refine wp_region_slots (lv [.pointer (some ⟨T, 0, none⟩), .int .i64 (id : Nat), undef, .int .i64 0, .bool false, .bool false, .int .i64 (id : Nat), .pointer (some ⟨gK, id, none⟩), .slice (qA Bk id) N1 (qC Bk id), .int .i64 (id : Nat), .pointer (some ⟨gO, id, none⟩), .slice (qA Bo id) N1 (qC Bo id), .bool true, .bool false, .bool false]) 2 2 109 109 (RowS (fun u => Eg w u T G As gO Bo gK Bk Q O K) [] 2) (by kernel_rfl) (by kernel_rfl) (by rfl) (by rfl) (RowS.start HAD.out) ?steps ?tail
                        case steps =>
                          refine ⟨?s0, ?s1, ?s2, ?s3, ?s4, ?s5, ?s6, ?s7, ?s8, ?s9, ?s10, ?s11, ?s12, ?s13, ?s14, trivial⟩
                          case s0 =>
                            intro Lb ac u hAg hp hl hd
                            have q0 := ev_of (show ac.eval (.tmp 3) = .pointer (some ⟨T, 0, none⟩) from hAg.eval 3 rfl)
                            refine ⟨rfl, StepOK.run (.pointer (some ⟨T, 0, none⟩)) ?_ ⟨fun _ _ => rfl, hp.keep (by decide) hp.1 (Below.refl _ _)⟩ trivial⟩
                            unfold execOp
                            simp [go_sem, q0]
                          case s1 =>
                            intro Lb ac u hAg hp hl hd
                            have q0 := ev_of (show ac.eval (.tmp 15) = .int .i64 (id : Nat) from hAg.eval 15 rfl)
                            refine ⟨rfl, StepOK.run (.int .i64 (id : Nat)) ?_ ⟨fun _ _ => rfl, hp.keep (by decide) hp.1 (Below.refl _ _)⟩ trivial⟩
                            unfold execOp
                            simp [go_sem, q0]
                          case s2 =>
                            intro Lb ac u hAg hp hl hd
                            have q0 := ev_of (show ac.eval (.tmp 107) = .pointer (some ⟨T, 0, none⟩) from depS hd 0 107 rfl rfl (by decide) (by decide))
                            have q1 := ev_of (show ac.eval (.tmp 108) = .int .i64 (id : Nat) from depS hd 1 108 rfl rfl (by decide) (by decide))
                            refine ⟨rfl, StepOK.call 19 #[.pointer (some ⟨T, 0, none⟩), .int .i64 (id : Nat)] ?_ ((queue_calls hp.1.lk.tb (id : Int)).mono ?_)⟩
                            · unfold execOp
                              simp [go_sem, q0, q1]
                            · rw [queueL_nat, HEQ.out]
                              rintro e w2 ⟨R2, c2, rfl, hO2, hb2⟩
                              exact ⟨_, rfl, ⟨fun h1 _ => absurd rfl h1, RowS.turn (hp.1.below hb2) ⟨R2, c2, rfl, hO2.cel⟩⟩, trivial⟩
                          case s3 =>
                            intro Lb ac u hAg hp hl hd
                            have l2 := depSL hd 2 rfl
                            obtain ⟨R2, c2, e2, hc2⟩ := hp.2 l2
                            have q0 := ev_of e2
                            refine ⟨rfl, StepOK.run (.int .i64 0) ?_ ⟨fun _ _ => rfl, hp.keep (by decide) hp.1 (Below.refl _ _)⟩ trivial⟩
                            unfold execOp
                            simp [go_sem, q0]
                          case s4 =>
                            intro Lb ac u hAg hp hl hd
                            have q0 := ev_of (show ac.eval (.tmp 110) = .int .i64 0 from depS hd 3 110 rfl rfl (by decide) (by decide))
                            refine ⟨rfl, StepOK.run (.bool false) ?_ ⟨fun _ _ => rfl, hp.keep (by decide) hp.1 (Below.refl _ _)⟩ trivial⟩
                            unfold execOp
                            simp [go_sem, q0]
                          case s5 =>
                            intro Lb ac u hAg hp hl hd
                            have q0 := ev_of (show ac.eval (.tmp 111) = .bool false from depS hd 4 111 rfl rfl (by decide) (by decide))
                            refine ⟨rfl, StepOK.run (.bool false) ?_ ⟨fun _ _ => rfl, hp.keep (by decide) hp.1 (Below.refl _ _)⟩ trivial⟩
                            unfold execOp
                            simp [go_sem, q0]
                          case s6 =>
                            intro Lb ac u hAg hp hl hd
                            have q0 := ev_of (show ac.eval (.tmp 15) = .int .i64 (id : Nat) from hAg.eval 15 rfl)
                            have qg := (show ac.eval (.tmp 112) = .bool false from depS hd 5 112 rfl rfl (by decide) (by decide))
                            refine ⟨(wanted_of rfl rfl qg).trans rfl, StepOK.run (.int .i64 (id : Nat)) ?_ ⟨fun _ _ => rfl, hp.keep (by decide) hp.1 (Below.refl _ _)⟩ trivial⟩
                            unfold execOp
                            simp [go_sem, q0]
                          case s7 =>
                            intro Lb ac u hAg hp hl hd
                            have q0 := ev_of (show ac.eval (.tmp 113) = .int .i64 (id : Nat) from depS hd 6 113 rfl rfl (by decide) (by decide))
                            have q1 := ev_of (show ac.eval (.tmp 5) = .pointer (some ⟨gK, 0, none⟩) from hAg.eval 5 rfl)
                            have qg := (show ac.eval (.tmp 112) = .bool false from depS hd 5 112 rfl rfl (by decide) (by decide))
                            refine ⟨(wanted_of rfl rfl qg).trans rfl, StepOK.run (.pointer (some ⟨gK, id, none⟩)) ?_ ⟨fun _ _ => rfl, hp.keep (by decide) hp.1 (Below.refl _ _)⟩ trivial⟩
                            unfold execOp
                            simp [go_sem, q0, q1, hid2]
                          case s8 =>
                            intro Lb ac u hAg hp hl hd
                            have q0 := ev_of (show ac.eval (.tmp 114) = .pointer (some ⟨gK, id, none⟩) from depS hd 7 114 rfl rfl (by decide) (by decide))
                            have qg := (show ac.eval (.tmp 112) = .bool false from depS hd 5 112 rfl rfl (by decide) (by decide))
                            have y0 := HCK.out u hp.1
                            refine ⟨(wanted_of rfl rfl qg).trans rfl, StepOK.run (.slice (qA Bk id) N1 (qC Bk id)) ?_ ⟨fun _ _ => rfl, hp.keep (by decide) hp.1 (Below.refl _ _)⟩ trivial⟩
                            unfold execOp
                            simp [go_sem, q0, y0]
                          case s9 =>
                            intro Lb ac u hAg hp hl hd
                            have q0 := ev_of (show ac.eval (.tmp 15) = .int .i64 (id : Nat) from hAg.eval 15 rfl)
                            have qg := (show ac.eval (.tmp 112) = .bool false from depS hd 5 112 rfl rfl (by decide) (by decide))
                            refine ⟨(wanted_of rfl rfl qg).trans rfl, StepOK.run (.int .i64 (id : Nat)) ?_ ⟨fun _ _ => rfl, hp.keep (by decide) hp.1 (Below.refl _ _)⟩ trivial⟩
                            unfold execOp
                            simp [go_sem, q0]
                          case s10 =>
                            intro Lb ac u hAg hp hl hd
                            have q0 := ev_of (show ac.eval (.tmp 116) = .int .i64 (id : Nat) from depS hd 9 116 rfl rfl (by decide) (by decide))
                            have q1 := ev_of (show ac.eval (.tmp 4) = .pointer (some ⟨gO, 0, none⟩) from hAg.eval 4 rfl)
                            have qg := (show ac.eval (.tmp 112) = .bool false from depS hd 5 112 rfl rfl (by decide) (by decide))
                            refine ⟨(wanted_of rfl rfl qg).trans rfl, StepOK.run (.pointer (some ⟨gO, id, none⟩)) ?_ ⟨fun _ _ => rfl, hp.keep (by decide) hp.1 (Below.refl _ _)⟩ trivial⟩
                            unfold execOp
                            simp [go_sem, q0, q1, hid2]
                          case s11 =>
                            intro Lb ac u hAg hp hl hd
                            have q0 := ev_of (show ac.eval (.tmp 117) = .pointer (some ⟨gO, id, none⟩) from depS hd 10 117 rfl rfl (by decide) (by decide))
                            have qg := (show ac.eval (.tmp 112) = .bool false from depS hd 5 112 rfl rfl (by decide) (by decide))
                            have y0 := HCO.out u hp.1
                            refine ⟨(wanted_of rfl rfl qg).trans rfl, StepOK.run (.slice (qA Bo id) N1 (qC Bo id)) ?_ ⟨fun _ _ => rfl, hp.keep (by decide) hp.1 (Below.refl _ _)⟩ trivial⟩
                            unfold execOp
                            simp [go_sem, q0, y0]
                          case s12 =>
                            intro Lb ac u hAg hp hl hd
                            have qg := (show ac.eval (.tmp 112) = .bool false from depS hd 5 112 rfl rfl (by decide) (by decide))
                            have q0 := ev_of (show ac.eval (.tmp 115) = .slice (qA Bk id) N1 (qC Bk id) from depS hd 8 115 rfl rfl (by decide) (by decide))
                            have q1 := ev_of (show ac.eval (.tmp 118) = .slice (qA Bo id) N1 (qC Bo id) from depS hd 11 118 rfl rfl (by decide) (by decide))
                            refine ⟨(wanted_of rfl rfl qg).trans rfl, StepOK.call 21 #[.slice (qA Bk id) N1 (qC Bk id), .slice (qA Bo id) N1 (qC Bo id)] ?_ ((isame_at (HRK.out u hp.1) (HRO.out u hp.1) HL16.out).mono ?_)⟩
                            · unfold execOp
                              simp [go_sem, q0, q1]
                            · rintro e w2 ⟨rfl, qn, rfl⟩
                              exact ⟨_, rfl, ⟨fun _ _ => rfl, hp.keep (by decide) (hp.1.below (below_drewN (Below.refl _ _) qn)) (below_drewN (Below.refl _ _) qn)⟩, trivial⟩
                          case s13 =>
                            intro Lb ac u hAg hp hl hd
                            have q0 := ev_of (show ac.eval (.tmp 119) = .bool true from depS hd 12 119 rfl rfl (by decide) (by decide))
                            have qg := (show ac.eval (.tmp 112) = .bool false from depS hd 5 112 rfl rfl (by decide) (by decide))
                            refine ⟨(wanted_of rfl rfl qg).trans rfl, StepOK.run (.bool false) ?_ ⟨fun _ _ => rfl, hp.keep (by decide) hp.1 (Below.refl _ _)⟩ trivial⟩
                            unfold execOp
                            simp [go_sem, q0]
                          case s14 =>
                            intro Lb ac u hAg hp hl hd
                            have q0 := ev_of (show ac.eval (.tmp 112) = .bool false from depS hd 5 112 rfl rfl (by decide) (by decide))
                            have q1 := ev_of (show ac.eval (.tmp 120) = .bool false from depS hd 13 120 rfl rfl (by decide) (by decide))
                            refine ⟨rfl, StepOK.run (.bool false) ?_ ⟨fun _ _ => rfl, hp.keep (by decide) hp.1 (Below.refl _ _)⟩ trivial⟩
                            unfold execOp
                            simp [go_sem, q0, q1]
                        case tail =>
                          intro Lb vs u hp hv hall
                          have e0 : vs 0 = .pointer (some ⟨T, 0, none⟩) := hv 0 rfl (by decide) (by decide)
                          have e1 : vs 1 = .int .i64 (id : Nat) := hv 1 rfl (by decide) (by decide)
                          have e3 : vs 3 = .int .i64 0 := hv 3 rfl (by decide) (by decide)
                          have e4 : vs 4 = .bool false := hv 4 rfl (by decide) (by decide)
                          have e5 : vs 5 = .bool false := hv 5 rfl (by decide) (by decide)
                          have e6 : vs 6 = .int .i64 (id : Nat) := hv 6 rfl (by decide) (by decide)
                          have e7 : vs 7 = .pointer (some ⟨gK, id, none⟩) := hv 7 rfl (by decide) (by decide)
                          have e8 : vs 8 = .slice (qA Bk id) N1 (qC Bk id) := hv 8 rfl (by decide) (by decide)
                          have e9 : vs 9 = .int .i64 (id : Nat) := hv 9 rfl (by decide) (by decide)
                          have e10 : vs 10 = .pointer (some ⟨gO, id, none⟩) := hv 10 rfl (by decide) (by decide)
                          have e11 : vs 11 = .slice (qA Bo id) N1 (qC Bo id) := hv 11 rfl (by decide) (by decide)
                          have e12 : vs 12 = .bool true := hv 12 rfl (by decide) (by decide)
                          have e13 : vs 13 = .bool false := hv 13 rfl (by decide) (by decide)
                          have e14 : vs 14 = .bool false := hv 14 rfl (by decide) (by decide)
                          simp only [putsFrom, Act.put, List.setIfInBounds_toArray, List.set_cons_succ, List.set_cons_zero, Nat.reduceAdd, e0, e1, e3, e4, e5, e6, e7, e8, e9, e10, e11, e12, e13, e14]
                          replace hp := Lib.hid hp
                          generalize vs 2 = z2 at *
                          clear e0 e1 e3 e4 e5 e6 e7 e8 e9 e10 e11 e12 e13 e14 hv hall
                          have HA2 := Lib.hid hp.out.1
                          go_wp2_with (fail)
                          go_roundg g
                          case measure => omega
                          case rel => exact ⟨id + 1, by omega, by go_num, HA2⟩
                  · have hf3 : 0 ≤ f ∧ f < 8 ∧ okF Q f = true := by
                      rcases hf.out with h | h
                      · omega
                      · exact h
                    have HTU2 : Hid (∀ j, j < 12 → TU Q0 (freeQ Q f) K j) := Lib.hid (fun j hj => (HTD.out j hj).free ((okF_iff.1 hf3.2.2).1 j))
                    have HCN2 : Hid (cntT (freeQ Q f) 8 + (r + 1) ≤ 8) := Lib.hid (by
                      have := cnt_free (m := 8) hf3.1 (by omega) (okF_there hf3.2.2)
                      have := HCN.out
                      omega)
                    have HQL2 : Hid ((freeQ Q f).length = 12) := Lib.hid ((free_len Q f).trans HQL.out)
                    have CF := Lib.hid (HE.out.lk.free f (er := 0) (Q' := freeQ Q f) (by unfold freeE; rw [if_pos ⟨hf3.1, hf3.2.1⟩]) (by unfold freeQ'; rw [if_pos ⟨hf3.1, hf3.2.1⟩]))
                    clear hf hf3 HTD HCN
                    go_wp2_with (fail)
                    refine CF.out.mono ?_
                    rintro e w5 ⟨rfl, As5, h5, t5⟩
                    have HE5 := Lib.hid (HE.out.turn h5 t5)
                    clear HE CF h5 t5
                    go_wp2_with (fail)
                    go_roundg g
                    case measure => omega
                    case rel => exact ⟨r + 1, As5, Bk, _, K, by omega, by go_num, HE5, HQL2, HKL, HTU2, HCN2⟩
            | succ g3 =>
              have hid : id < 12 := by omega
              have hid2 : (id : Int) < 12 := by omega
              have HTUI : Hid (TU Q0 Q K id) := Lib.hid (by
                have := HST.out id hid
                rwa [if_neg (Nat.lt_irrefl _)] at this)
              have HSTEP : Hid (∀ z, LockMath.tell (qu K id) (qu Q id) = z → ∀ j, j < 12 → if j < id + 1 then TD Q0 Q (K.set id z) j else TU Q0 Q (K.set id z) j) := Lib.hid (fun z hz j hj => by
                have hs : ∀ j, qu (K.set id z) j = if id = j then z else qu K j := fun j => by
                  rw [qu_set]
                  by_cases hij : id = j
                  · rw [if_pos ⟨hij, by rw [HKL.out]; omega⟩, if_pos hij]
                  · rw [if_neg (fun h => hij h.1), if_neg hij]
                by_cases hij : id = j
                · subst hij
                  rw [if_pos (Nat.lt_succ_self _)]
                  exact HTUI.out.tell (by rw [hs, if_pos rfl, hz])
                · have h0 := HST.out j hj
                  have hq : qu (K.set id z) j = qu K j := by rw [hs, if_neg hij]
                  by_cases hlt : j < id
                  · rw [if_pos (by omega)]
                    rw [if_pos hlt] at h0
                    obtain ⟨d, h1, h2⟩ := h0
                    exact ⟨d, h1, hq.trans h2⟩
                  · rw [if_neg (by omega)]
                    rw [if_neg hlt] at h0
                    obtain ⟨d, h1⟩ := h0
                    exact ⟨d, by rw [hq]; exact h1⟩)
              have hl16 : (qu K id).length ≤ 16 := Nat.le_trans HTUI.out.len (HNM.out.len id)
              have hhd : headO Q (id : Int) = (qu Q id).head? := by
                unfold headO
                rw [if_pos (by omega), Int.toNat_natCast]
              obtain ⟨N1, hN1⟩ : ∃ N1, (qu K id).length = N1 := ⟨_, rfl⟩
              have HNK := Lib.hid hN1
              obtain ⟨A, hA⟩ : ∃ A, qA Bk id = A := ⟨_, rfl⟩
              have HAA := Lib.hid hA
              obtain ⟨C, hC⟩ : ∃ C, qC Bk id = C := ⟨_, rfl⟩
              have HCC := Lib.hid hC
              rw [hN1] at hl16
              have HCW : Hid (∀ u, Eg w u T G As gO Bo gK Bk Q O K → u.cell? ⟨gK, id, none⟩ = some (.slice A N1 C)) := Lib.hid (fun u h => by
                have := h.qk.cell (i := id) (by rw [HKL.out]; exact hid)
                rwa [HNK.out, HAA.out, HCC.out] at this)
              have HRW : Hid (∀ u j, j < N1 → Eg w u T G As gO Bo gK Bk Q O K → ∃ g, A = some ⟨g, 0, none⟩ ∧ u.cell? ⟨g, j, none⟩ = some (.int .i64 ((qu K id).getD j 0))) := Lib.hid (fun u j hj h => by
                obtain ⟨g, e1, e2⟩ := h.qk.at (i := id) (k := j) (by rw [HKL.out]; exact hid) (by rw [HNK.out]; exact hj)
                exact ⟨g, by rw [← HAA.out]; exact e1, e2⟩)
              clear hN1 hA hC
              go_wp2_with (fail)
              refine (holder_calls HE.out.lk.tb (id : Int)).mono ?_
              rintro e w' ⟨rfl, rfl⟩
              rw [hhd]
              clear hhd
              generalize wr = U0 at *
              cases hh : (qu Q id).head? with
              | none =>
                have HTELL := Lib.hid (tell_none (g := qu K id) hh)
                rw [show two none = .tuple #[.int .i64 0, .bool false] from rfl]
                have HST2 : Hid (∀ j, j < 12 → if j < id + 1 then TD Q0 Q K j else TU Q0 Q K j) := Lib.hid (by
                  have := HSTEP.out _ HTELL.out
                  have e : K.set id (qu K id) = K := by
                    have : qu K id = K[id]'(by rw [HKL.out]; exact hid) := by
                      unfold qu
                      rw [List.getD_eq_getElem?_getD, List.getElem?_eq_getElem]; rfl
                    rw [this, List.set_getElem_self]
                  rwa [e] at this)
                clear hh
                go_wp2_with (fail)
                go_quiet (fail)
                have HEQ := Lib.hid (HE.out.below (below_drewN (Below.refl _ _) nq))
                go_wp2_with (fail)
                go_roundg g3
                case measure => omega
                case rel => exact ⟨id + 1, Bk, K, by omega, by go_num, HEQ, HKL, HST2⟩
              | some x =>
                rw [show two (some x) = .tuple #[.int .i64 x, .bool true] from rfl]
                have y0 := HCW.out U0 HE.out
                by_cases hN0 : N1 = 0
                · have hz : ((N1 : Int) == 0) = true := by rw [hN0]; rfl
                  have HTELL := Lib.hid (tell_add (g := qu K id) hh (.inl (List.eq_nil_of_length_eq_zero (HNK.out.trans hN0))))
                  clear hh hN0
                  go_wp2_with (fail)
                  go_quiet (fail)
                  have HEU := Lib.hid (HE.out.below (below_drewN (Below.refl _ _) nq))
                  generalize U0.drewN nq = U at *
                  clear y0 hz
                  have y0 := HCW.out U HEU.out
                  have HOW : Hid (OwnR U 3 1 A N1 C (iv (qu K id))) := Lib.hid (by
                    have := HEU.out.qk.own id (by rw [HKL.out]; exact hid)
                    rwa [HNK.out, HAA.out, HCC.out] at this)
                  have HEA : Hid (Eg w (U.alloc (.cells #[.int .i64 x] 3)) T G As gO Bo gK Bk Q O K) := Lib.hid (HEU.out.below ((Below.refl _ _).alloc (Nat.le_refl _) (.cells #[.int .i64 x] 3)))
                  have HOA : Hid (OwnR (U.alloc (.cells #[.int .i64 x] 3)) 3 1 A N1 C (iv (qu K id))) := Lib.hid (HOW.out.keep fun ad e => Below.heap_alloc _ _ _ (HOW.out.lt ad e))
                  have HGA := Lib.hid (heap_alloc_new U (.cells #[.int .i64 x] 3))
                  generalize hUA : U.alloc (.cells #[.int .i64 x] 3) = UA at HEA HOA HGA
                  go_wp2_with (at_builtin; refine wpList_append_r rfl (.tmp 72) (.tmp 74) 40 rfl 3 i0 _ 1 8 Try.underlying40 HI.out HZ.out HS.out HB.out rfl A N1 C (iv (qu K id)) rfl HOA.out ⟨U.heap.size, 0, none⟩ 1 1 (iv [x]) rfl rfl (cells_one HGA.out) (iv_one _) (by decide) (by unfold maxLen; omega) (by omega) ?_; intro g' c2 wz hown2 hgr hg; have hfz : wz.frozen? ⟨gK, id, none⟩ = false := HEA.out.qk.frozen1 (by rw [HKL.out]; exact hid) (by rw [HAA.out]; exact hgr) id; have hcz : wz.cell? ⟨gK, id, none⟩ = some (.slice A N1 C) := HEA.out.qk.cell1 (by rw [HKL.out]; exact hid) (by rw [HAA.out]; exact hgr) HAA.out HNK.out HCC.out)
                  have HEG := Lib.hid (HEA.out.grow (by rw [HKL.out]; exact hid) HNK.out hown2 (by rw [HAA.out]; exact hgr) (by rw [HAA.out]; exact hg))
                  have HKL2 : Hid ((K.set id (qu K id ++ [x])).length = 12) := Lib.hid (by rw [List.length_set]; exact HKL.out)
                  have HST2 : Hid (∀ j, j < 12 → if j < id + 1 then TD Q0 Q (K.set id (qu K id ++ [x])) j else TU Q0 Q (K.set id (qu K id ++ [x])) j) := Lib.hid (HSTEP.out _ HTELL.out)
                  clear hown2 hgr hg hfz hcz
                  go_roundg g3
                  case measure => omega
                  case rel => exact ⟨id + 1, _, _, by omega, by go_num, HEG, HKL2, HST2⟩
                · obtain ⟨N2, hN2⟩ : ∃ N2, N1 = N2 + 1 := ⟨N1 - 1, by omega⟩
                  obtain ⟨ga, hga, yl⟩ := HRW.out U0 N2 (by omega) HE.out
                  have hla := last_at (HNK.out.trans hN2)
                  generalize (qu K id).getD N2 0 = y at *
                  have hN3 : (N1 : Int) - 1 = (N2 : Int) := by omega
                  have hN4 : ((N1 : Int) == 0) = false := by rw [beq_eq_false_iff_ne]; omega
                  have hN5 : (N2 : Int) < (N1 : Int) := by omega
                  clear hN0 hN2
                  rw [hga] at y0
                  by_cases hyx : y = x
                  · subst hyx
                    have HTELL := Lib.hid (tell_same (g := qu K id) hh hla)
                    have HST2 : Hid (∀ j, j < 12 → if j < id + 1 then TD Q0 Q K j else TU Q0 Q K j) := Lib.hid (by
                      have := HSTEP.out _ HTELL.out
                      have e : K.set id (qu K id) = K := by
                        have : qu K id = K[id]'(by rw [HKL.out]; exact hid) := by
                          unfold qu
                          rw [List.getD_eq_getElem?_getD, List.getElem?_eq_getElem]; rfl
                        rw [this, List.set_getElem_self]
                      rwa [e] at this)
                    clear hh hla
                    go_wp2_with (fail)
                    go_quiet (fail)
                    have HEQ := Lib.hid (HE.out.below (below_drewN (Below.refl _ _) nq))
                    go_wp2_with (fail)
                    go_roundg g3
                    case measure => omega
                    case rel => exact ⟨id + 1, Bk, K, by omega, by go_num, HEQ, HKL, HST2⟩
                  · have HTELL := Lib.hid (tell_add (g := qu K id) hh (.inr (by rw [hla]; intro e; injection e with e; exact hyx e)))
                    have hne : (y != x) = true := by rw [bne_iff_ne]; exact hyx
                    clear hh hla hyx
                    go_wp2_with (fail)
                    go_quiet (fail)
                    have HEU := Lib.hid (HE.out.below (below_drewN (Below.refl _ _) nq))
                    generalize U0.drewN nq = U at *
                    clear y0 yl hN3 hN4 hN5 hga
                    have y0 := HCW.out U HEU.out
                    have HOW : Hid (OwnR U 3 1 A N1 C (iv (qu K id))) := Lib.hid (by
                      have := HEU.out.qk.own id (by rw [HKL.out]; exact hid)
                      rwa [HNK.out, HAA.out, HCC.out] at this)
                    have HEA : Hid (Eg w (U.alloc (.cells #[.int .i64 x] 3)) T G As gO Bo gK Bk Q O K) := Lib.hid (HEU.out.below ((Below.refl _ _).alloc (Nat.le_refl _) (.cells #[.int .i64 x] 3)))
                    have HOA : Hid (OwnR (U.alloc (.cells #[.int .i64 x] 3)) 3 1 A N1 C (iv (qu K id))) := Lib.hid (HOW.out.keep fun ad e => Below.heap_alloc _ _ _ (HOW.out.lt ad e))
                    have HGA := Lib.hid (heap_alloc_new U (.cells #[.int .i64 x] 3))
                    generalize hUA : U.alloc (.cells #[.int .i64 x] 3) = UA at HEA HOA HGA
                    go_wp2_with (at_builtin; refine wpList_append_r rfl (.tmp 72) (.tmp 74) 40 rfl 3 i0 _ 1 8 Try.underlying40 HI.out HZ.out HS.out HB.out rfl A N1 C (iv (qu K id)) rfl HOA.out ⟨U.heap.size, 0, none⟩ 1 1 (iv [x]) rfl rfl (cells_one HGA.out) (iv_one _) (by decide) (by unfold maxLen; omega) (by omega) ?_; intro g' c2 wz hown2 hgr hg; have hfz : wz.frozen? ⟨gK, id, none⟩ = false := HEA.out.qk.frozen1 (by rw [HKL.out]; exact hid) (by rw [HAA.out]; exact hgr) id; have hcz : wz.cell? ⟨gK, id, none⟩ = some (.slice A N1 C) := HEA.out.qk.cell1 (by rw [HKL.out]; exact hid) (by rw [HAA.out]; exact hgr) HAA.out HNK.out HCC.out)
                    have HEG := Lib.hid (HEA.out.grow (by rw [HKL.out]; exact hid) HNK.out hown2 (by rw [HAA.out]; exact hgr) (by rw [HAA.out]; exact hg))
                    have HKL2 : Hid ((K.set id (qu K id ++ [x])).length = 12) := Lib.hid (by rw [List.length_set]; exact HKL.out)
                    have HST2 : Hid (∀ j, j < 12 → if j < id + 1 then TD Q0 Q (K.set id (qu K id ++ [x])) j else TU Q0 Q (K.set id (qu K id ++ [x])) j) := Lib.hid (HSTEP.out _ HTELL.out)
                    clear hown2 hgr hg hfz hcz
                    go_roundg g3
                    case measure => omega
                    case rel => exact ⟨id + 1, _, _, by omega, by go_num, HEG, HKL2, HST2⟩
end Go.Proofs.Ythlodfahajaneaa
