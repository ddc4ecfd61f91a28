/- The program's Want: a process asks for a lock. -/
import Derived.Test.YthlodfahajaneaaKz
import Derived.Deep.DeepCutAuto
set_option linter.unusedSimpArgs false
set_option linter.unusedVariables false
namespace Go.Proofs.Ythlodfahajaneaa
open Go Go.RowKit LockMath Go.Shelf
section
variable {w0 w : World} {T G : Nat} {As : List (Option Addr × Nat)} {n : Int} {Q : List (List Int)}
theorem ok_parts (Q : List (List Int)) (n p id : Int) : okB Q n p id = (hasP n p && hasL Q id) := by
  rw [Bool.eq_iff_iff, Bool.and_eq_true]
  unfold okB hasP hasL
  simp only [decide_eq_true_eq]
  omega
theorem lack_no {n p : Int} (h : hasP n p = false) : lackE n p = 2 := by unfold lackE; rw [h]; rfl
theorem lack_yes {n p : Int} (h : hasP n p = true) : lackE n p = 0 := by unfold lackE; rw [h]; rfl
/-- What Want leaves. -/
def WantP (w0 w : World) (T G : Nat) (As : List (Option Addr × Nat)) (n : Int) (b : Bool) (er : Int) (Q' : List (List Int)) (e : Ending) (w' : World) : Prop :=
  e = .returned (.tuple #[.bool b, .int .i64 er]) ∧ ∃ As', Tb w0 w' T G As' n Q' ∧ Tn w w' T G As As'
theorem want_bad (h : Tb w0 w T G As n Q) (p id : Int) (ho : okB Q n p id = false) :
    Calls Try.prog 13 #[.pointer (some ⟨T, 0, none⟩), .int .i64 p, .int .i64 id] w fun e w' => e = .returned (.tuple #[.bool false, .int .i64 2]) ∧ w = w' := by
  rw [ok_parts] at ho
  have CL := Lib.hid (lacks_calls h p)
  have CH := Lib.hid (has_calls h id)
  cases hp : hasP n p with
  | false =>
    rw [lack_no hp] at CL
    go_enter Try.func13, Try.ntmps13
    go_wp2_with (first | (go_at_call 22; refine CL.out.mono ?_; rintro e w' ⟨rfl, rfl⟩) | (go_at_call 26; refine CH.out.mono ?_; rintro e w' ⟨rfl, rfl⟩))
    go_ret2
    exact ⟨rfl, rfl⟩
  | true =>
    rw [hp, Bool.true_and] at ho
    rw [lack_yes hp] at CL
    rw [ho] at CH
    go_enter Try.func13, Try.ntmps13
    go_wp2_with (first | (go_at_call 22; refine CL.out.mono ?_; rintro e w' ⟨rfl, rfl⟩) | (go_at_call 26; refine CH.out.mono ?_; rintro e w' ⟨rfl, rfl⟩))
    go_ret2
    exact ⟨rfl, rfl⟩
theorem want_held2 (h : Tb w0 w T G As n Q) (p : Int) (i : Nat) (hp : 0 ≤ p ∧ p < n) (hi : i < Q.length) (hh : Hold Q p i) :
    Calls Try.prog 13 #[.pointer (some ⟨T, 0, none⟩), .int .i64 p, .int .i64 (i : Int)] w fun e w' => e = .returned (.tuple #[.bool true, .int .i64 0]) ∧ w = w' := by
  have HT := Lib.hid h
  have HM0 := Lib.hid h.nm.l1
  have CL := Lib.hid (lacks_calls h p)
  have CH := Lib.hid (has_calls h (i : Int))
  have CO := Lib.hid (holder_calls h (i : Int))
  have CB := Lib.hid (barred_calls h p i)
  have HIQ := Lib.hid hi
  have hl16 := h.nm.len i
  have hm := h.nm.l1
  rw [lack_yes (by unfold hasP; exact decide_eq_true hp)] at CL
  rw [show hasL Q (i : Int) = true by unfold hasL; exact decide_eq_true ⟨by omega, by omega⟩] at CH
  obtain ⟨m, hM⟩ : ∃ m, Q.length = m := ⟨_, rfl⟩
  have HM := Lib.hid hM
  have him : (i : Int) < (m : Int) := by omega
  have hi2 : i < m := by omega
  rw [hM] at hm
  obtain ⟨L, hL⟩ : ∃ L, (qu Q i).length = L := ⟨_, rfl⟩
  have HL := Lib.hid hL
  rw [hL] at hl16
  obtain ⟨A, hA⟩ : ∃ A, qA As i = A := ⟨_, rfl⟩
  have HA := Lib.hid hA
  obtain ⟨C, hC⟩ : ∃ C, qC As i = C := ⟨_, rfl⟩
  have HC := Lib.hid hC
  unfold two at CO
  rw [head_hold.2 hh] at CO
  clear h hi hh hM hL hA hC
  go_enter Try.func13, Try.ntmps13
  go_wp2_with (first | (go_at_call 22; refine CL.out.mono ?_; rintro e w' ⟨rfl, rfl⟩) | (go_at_call 26; refine CH.out.mono ?_; rintro e w' ⟨rfl, rfl⟩) | (go_at_call 20; refine CO.out.mono ?_; rintro e w' ⟨rfl, rfl⟩))
  go_ret2
  exact ⟨rfl, rfl⟩
theorem want_barred (h : Tb w0 w T G As n Q) (p : Int) (i : Nat) (hp : 0 ≤ p ∧ p < n) (hi : i < Q.length) (hh : ¬ Hold Q p i) (hb : (elseB Q p i || grB Q p i) = true) :
    Calls Try.prog 13 #[.pointer (some ⟨T, 0, none⟩), .int .i64 p, .int .i64 (i : Int)] w fun e w' => e = .returned (.tuple #[.bool false, .int .i64 6]) ∧ Below w.heap.size w w' := by
  have HT := Lib.hid h
  have HM0 := Lib.hid h.nm.l1
  have CL := Lib.hid (lacks_calls h p)
  have CH := Lib.hid (has_calls h (i : Int))
  have CO := Lib.hid (holder_calls h (i : Int))
  have CB := Lib.hid (barred_calls h p i)
  have HIQ := Lib.hid hi
  have hl16 := h.nm.len i
  have hm := h.nm.l1
  rw [lack_yes (by unfold hasP; exact decide_eq_true hp)] at CL
  rw [show hasL Q (i : Int) = true by unfold hasL; exact decide_eq_true ⟨by omega, by omega⟩] at CH
  obtain ⟨m, hM⟩ : ∃ m, Q.length = m := ⟨_, rfl⟩
  have HM := Lib.hid hM
  have him : (i : Int) < (m : Int) := by omega
  have hi2 : i < m := by omega
  rw [hM] at hm
  obtain ⟨L, hL⟩ : ∃ L, (qu Q i).length = L := ⟨_, rfl⟩
  have HL := Lib.hid hL
  rw [hL] at hl16
  obtain ⟨A, hA⟩ : ∃ A, qA As i = A := ⟨_, rfl⟩
  have HA := Lib.hid hA
  obtain ⟨C, hC⟩ : ∃ C, qC As i = C := ⟨_, rfl⟩
  have HC := Lib.hid hC
  unfold two at CO
  obtain ⟨o, ho⟩ : ∃ o, headO Q (i : Int) = o := ⟨_, rfl⟩
  have ho2 : o ≠ some p := fun e => hh (head_hold.1 (ho.trans e))
  rw [ho] at CO
  rw [hb] at CB
  cases o with
  | none =>
    clear ho2 ho h hi hh hM hL hA hC hb
    go_enter Try.func13, Try.ntmps13
    go_wp2_with (first | (go_at_call 22; refine CL.out.mono ?_; rintro e w' ⟨rfl, rfl⟩) | (go_at_call 26; refine CH.out.mono ?_; rintro e w' ⟨rfl, rfl⟩) | (go_at_call 20; refine CO.out.mono ?_; rintro e w' ⟨rfl, rfl⟩) | (go_at_call 27; refine CB.out.mono ?_; rintro e wB ⟨rfl, hbB⟩; replace hbB := Lib.hid hbB; have HTW := Lib.hid (HT.out.below hbB.out); have y1 := HTW.out.c1; have yq := HTW.out.q.cell HIQ.out; rw [HM.out] at y1; rw [HA.out, HL.out, HC.out] at yq))
    go_ret2
    exact ⟨rfl, hbB.out⟩
  | some x =>
    have hxp : (x == p) = false := by rw [beq_eq_false_iff_ne]; exact fun e => ho2 (by rw [e])
    clear ho2 ho h hi hh hM hL hA hC hb
    go_enter Try.func13, Try.ntmps13
    go_wp2_with (first | (go_at_call 22; refine CL.out.mono ?_; rintro e w' ⟨rfl, rfl⟩) | (go_at_call 26; refine CH.out.mono ?_; rintro e w' ⟨rfl, rfl⟩) | (go_at_call 20; refine CO.out.mono ?_; rintro e w' ⟨rfl, rfl⟩) | (go_at_call 27; refine CB.out.mono ?_; rintro e wB ⟨rfl, hbB⟩; replace hbB := Lib.hid hbB; have HTW := Lib.hid (HT.out.below hbB.out); have y1 := HTW.out.c1; have yq := HTW.out.q.cell HIQ.out; rw [HM.out] at y1; rw [HA.out, HL.out, HC.out] at yq))
    go_ret2
    exact ⟨rfl, hbB.out⟩
theorem contains_at {i : Nat} {A : Option Addr} {L C : Nat} (h : Tb w0 w T G As n Q) (hi : i < Q.length) (p : Int) (hA : qA As i = A) (hL : (qu Q i).length = L) (hC : qC As i = C) (hl : L ≤ 16) :
    Calls Try.prog 28 #[.slice A L C, .int .i64 p] w fun e w' => e = .returned (.bool (decide (p ∈ qu Q i))) ∧ w = w' := by
  subst hA hL hC
  exact contains_calls _ _ _ p w (h.q.row hi) (by omega)
theorem want_waits (h : Tb w0 w T G As n Q) (p : Int) (i : Nat) (hp : 0 ≤ p ∧ p < n) (hi : i < Q.length) (hh : ¬ Hold Q p i) (hb : (elseB Q p i || grB Q p i) = false) (hw : p ∈ qu Q i) :
    Calls Try.prog 13 #[.pointer (some ⟨T, 0, none⟩), .int .i64 p, .int .i64 (i : Int)] w fun e w' => e = .returned (.tuple #[.bool false, .int .i64 0]) ∧ Below w.heap.size w w' := by
  have HT := Lib.hid h
  have HM0 := Lib.hid h.nm.l1
  have CL := Lib.hid (lacks_calls h p)
  have CH := Lib.hid (has_calls h (i : Int))
  have CO := Lib.hid (holder_calls h (i : Int))
  have CB := Lib.hid (barred_calls h p i)
  have HIQ := Lib.hid hi
  have hl16 := h.nm.len i
  have hm := h.nm.l1
  rw [lack_yes (by unfold hasP; exact decide_eq_true hp)] at CL
  rw [show hasL Q (i : Int) = true by unfold hasL; exact decide_eq_true ⟨by omega, by omega⟩] at CH
  obtain ⟨m, hM⟩ : ∃ m, Q.length = m := ⟨_, rfl⟩
  have HM := Lib.hid hM
  have him : (i : Int) < (m : Int) := by omega
  have hi2 : i < m := by omega
  rw [hM] at hm
  obtain ⟨L, hL⟩ : ∃ L, (qu Q i).length = L := ⟨_, rfl⟩
  have HL := Lib.hid hL
  rw [hL] at hl16
  obtain ⟨A, hA⟩ : ∃ A, qA As i = A := ⟨_, rfl⟩
  have HA := Lib.hid hA
  obtain ⟨C, hC⟩ : ∃ C, qC As i = C := ⟨_, rfl⟩
  have HC := Lib.hid hC
  unfold two at CO
  obtain ⟨o, ho⟩ : ∃ o, headO Q (i : Int) = o := ⟨_, rfl⟩
  have ho2 : o ≠ some p := fun e => hh (head_hold.1 (ho.trans e))
  rw [ho] at CO
  rw [hb] at CB
  have HP := Lib.hid (decide_eq_true hw)
  have hL0 : 0 < L := by rw [← hL]; exact List.length_pos_of_mem hw
  have hL1 : (0 : Int) < (L : Int) := by omega
  cases o with
  | none =>
    exfalso
    have : (qu Q i).head? = none := by
      unfold headO at ho
      rw [if_pos (by omega), Int.toNat_natCast] at ho
      exact ho
    rw [List.head?_eq_none_iff] at this
    rw [this] at hw; cases hw
  | some x =>
    have hxp : (x == p) = false := by rw [beq_eq_false_iff_ne]; exact fun e => ho2 (by rw [e])
    have hx0 : (qu Q i).getD 0 0 = x := by
      unfold headO at ho
      rw [if_pos (by omega), Int.toNat_natCast] at ho
      cases hq : qu Q i with
      | nil => rw [hq] at ho; cases ho
      | cons a r => rw [hq] at ho; injection ho with ho
    have HX0 := Lib.hid hx0
    have HAT : Hid (∀ u, Tb w0 u T G As n Q → ∃ g, A = some ⟨g, 0, none⟩ ∧ u.cell? ⟨g, 0, none⟩ = some (.int .i64 x)) := Lib.hid (fun u hu => by
      obtain ⟨g, e1, e2⟩ := hu.q.at HIQ.out (k := 0) (by rw [HL.out]; exact hL0)
      rw [HX0.out] at e2
      exact ⟨g, by rw [← HA.out]; exact e1, e2⟩)
    clear hx0 ho2 ho h hi hh hM hL hA hC hb hw
    go_enter Try.func13, Try.ntmps13
    go_wp2_with (first | (go_at_call 22; refine CL.out.mono ?_; rintro e w' ⟨rfl, rfl⟩) | (go_at_call 26; refine CH.out.mono ?_; rintro e w' ⟨rfl, rfl⟩) | (go_at_call 20; refine CO.out.mono ?_; rintro e w' ⟨rfl, rfl⟩) | (go_at_call 27; refine CB.out.mono ?_; rintro e wB ⟨rfl, hbB⟩; replace hbB := Lib.hid hbB; have HTW := Lib.hid (HT.out.below hbB.out); have y1 := HTW.out.c1; have yq := HTW.out.q.cell HIQ.out; rw [HM.out] at y1; rw [HA.out, HL.out, HC.out] at yq; obtain ⟨ga, hga, yx⟩ := HAT.out _ HTW.out; rw [hga] at yq) | (go_at_call 28; refine (contains_at HTW.out HIQ.out p (HA.out.trans hga) HL.out HC.out (by omega)).mono ?_; rintro e w' ⟨rfl, rfl⟩; rw [HP.out]))
    go_ret2
    exact ⟨rfl, hbB.out⟩
theorem want_appends {p : Int} {i : Nat} (hp : 0 ≤ p ∧ p < n) (hi : i < Q.length) (hh : ¬ Hold Q p i) (hb : (elseB Q p i || grB Q p i) = false) (hw : p ∉ qu Q i) : wantQ Q n p (i : Int) = Q.set i (qu Q i ++ [p]) := by
  have hok : okB Q n p (i : Int) = true := ok_iff.2 ⟨hp.1, hp.2, by omega, by omega⟩
  unfold wantQ
  rw [if_pos hok, Int.toNat_natCast, if_neg hh, if_neg (by rw [hb]; decide), if_neg]
  cases hc : waitsF Q p with
  | none => simp
  | some j =>
    exfalso
    have h1 := waits_some hc
    rw [Bool.or_eq_false_iff] at hb
    have h2 := hb.1
    unfold elseB at h2
    rw [hc] at h2
    have h2 := of_decide_eq_false h2
    have h3 : j = i := Classical.not_not.1 h2
    subst h3
    exact hw (mem_or.2 (.inr h1))
theorem want_new (h : Tb w0 w T G As n Q) (hw0 : w0.heap.size ≤ w.heap.size) (p : Int) (i : Nat) (hp : 0 ≤ p ∧ p < n) (hi : i < Q.length) (hh : ¬ Hold Q p i) (hb : (elseB Q p i || grB Q p i) = false) (hw : p ∉ qu Q i) :
    Calls Try.prog 13 #[.pointer (some ⟨T, 0, none⟩), .int .i64 p, .int .i64 (i : Int)] w (WantP w0 w T G As n (decide (qu Q i = [])) 0 (Q.set i (qu Q i ++ [p]))) := by
  have HT := Lib.hid h
  have HM0 := Lib.hid h.nm.l1
  have CL := Lib.hid (lacks_calls h p)
  have CH := Lib.hid (has_calls h (i : Int))
  have CO := Lib.hid (holder_calls h (i : Int))
  have CB := Lib.hid (barred_calls h p i)
  have HIQ := Lib.hid hi
  have hl16 := h.nm.len i
  have hm := h.nm.l1
  rw [lack_yes (by unfold hasP; exact decide_eq_true hp)] at CL
  rw [show hasL Q (i : Int) = true by unfold hasL; exact decide_eq_true ⟨by omega, by omega⟩] at CH
  obtain ⟨m, hM⟩ : ∃ m, Q.length = m := ⟨_, rfl⟩
  have HM := Lib.hid hM
  have him : (i : Int) < (m : Int) := by omega
  have hi2 : i < m := by omega
  rw [hM] at hm
  obtain ⟨L, hL⟩ : ∃ L, (qu Q i).length = L := ⟨_, rfl⟩
  have HL := Lib.hid hL
  rw [hL] at hl16
  obtain ⟨A, hA⟩ : ∃ A, qA As i = A := ⟨_, rfl⟩
  have HA := Lib.hid hA
  obtain ⟨C, hC⟩ : ∃ C, qC As i = C := ⟨_, rfl⟩
  have HC := Lib.hid hC
  unfold two at CO
  obtain ⟨o, ho⟩ : ∃ o, headO Q (i : Int) = o := ⟨_, rfl⟩
  have ho2 : o ≠ some p := fun e => hh (head_hold.1 (ho.trans e))
  rw [ho] at CO
  rw [hb] at CB
  obtain ⟨i0, hi0, hz0, hs0, hb0⟩ := info_parts i64_info
  have HI := Lib.hid hi0
  have HZ := Lib.hid hz0
  have HS := Lib.hid hs0
  have HB := Lib.hid hb0
  clear hi0 hz0 hs0 hb0
  have HP := Lib.hid (decide_eq_false hw)
  have HNM : Hid (Nm n (Q.set i (qu Q i ++ [p]))) := Lib.hid (by
    have := h.nm.want p (i : Int)
    rwa [want_appends hp hi hh hb hw] at this)
  have HNO : Hid (o = none → qu Q i = []) := Lib.hid (fun e => by
    subst e
    unfold headO at ho
    rw [if_pos (by omega), Int.toNat_natCast, List.head?_eq_none_iff] at ho
    exact ho)
  have HSO : Hid (∀ x, o = some x → qu Q i ≠ [] ∧ (qu Q i ++ [p]).getD 0 0 = x) := Lib.hid (fun x e => by
    subst e
    unfold headO at ho
    rw [if_pos (by omega), Int.toNat_natCast] at ho
    cases hq : qu Q i with
    | nil => rw [hq] at ho; cases ho
    | cons a r =>
      rw [hq] at ho
      injection ho with ho
      exact ⟨by simp, ho⟩)
  cases o with
  | none =>
    have HNIL := Lib.hid (HNO.out rfl)
    clear HNO HSO
    clear ho2 ho h hi hh hM hL hA hC hb hw
    go_enter Try.func13, Try.ntmps13
    go_wp2_with (first | (go_at_call 22; refine CL.out.mono ?_; rintro e w' ⟨rfl, rfl⟩) | (go_at_call 26; refine CH.out.mono ?_; rintro e w' ⟨rfl, rfl⟩) | (go_at_call 20; refine CO.out.mono ?_; rintro e w' ⟨rfl, rfl⟩) | (go_at_call 27; refine CB.out.mono ?_; rintro e wB ⟨rfl, hbB⟩; replace hbB := Lib.hid hbB; have HTW := Lib.hid (HT.out.below hbB.out); have y1 := HTW.out.c1; have yq := HTW.out.q.cell HIQ.out; rw [HM.out] at y1; rw [HA.out, HL.out, HC.out] at yq) | (go_at_call 28; refine (contains_at HTW.out HIQ.out p HA.out HL.out HC.out (by omega)).mono ?_; rintro e w' ⟨rfl, rfl⟩; rw [HP.out]))
    have HAP : Hid (ApA w0 wB 49 (#[.int .i64 n, .slice (some ⟨G, 0, none⟩) m m]) T G As Q wB.drew) := Lib.hid (by
      have h1 := HTW.out.tg
      rw [HM.out] at h1
      have h2 : Below wB.heap.size wB wB.drew := (Below.refl _ _).drew
      exact ⟨h1.below h2, Tn.of_below h2, Nat.le_trans hw0 hbB.out.size⟩)
    refine wp_region_slots (lv [.pointer (some ⟨T, 0, none⟩), .pointer (some ⟨T, 0, none⟩), .pointer (some ⟨T, 1, none⟩), .slice (some ⟨G, 0, none⟩) m m, .int .i64 (i : Nat), .pointer (some ⟨T, 0, none⟩), .pointer (some ⟨T, 0, none⟩), .pointer (some ⟨T, 1, none⟩), .slice (some ⟨G, 0, none⟩) m m, .int .i64 (i : Nat), .pointer (some ⟨G, i, none⟩), .slice A L C, .int .i64 p, undef, undef, .pointer (some ⟨G, i, none⟩), undef]) 13 14 60 61 (Ap w0 wB 49 (#[.int .i64 n, .slice (some ⟨G, 0, none⟩) m m]) T G As Q i A L p) (by kernel_rfl) (by kernel_rfl) (by rfl) (by rfl) (Ap.start HAP.out) ?steps ?tail
    case steps =>
      refine ⟨?s0, ?s1, ?s2, ?s3, ?s4, ?s5, ?s6, ?s7, ?s8, ?s9, ?s10, ?s11, ?s12, ?s13, ?s14, ?s15, ?s16, trivial⟩
      case s0 =>
        intro Lb ac u hAg hp hl hd
        have q0 := ev_of (show ac.eval (.tmp 0) = .pointer (some ⟨T, 0, none⟩) from hAg.eval 0 rfl)
        refine ⟨rfl, StepOK.run (.pointer (some ⟨T, 0, none⟩)) ?_ ⟨fun _ _ => rfl, hp.keep (by decide) (by decide) (by decide)⟩ trivial⟩
        unfold execOp
        simp [go_sem, q0]
      case s1 =>
        intro Lb ac u hAg hp hl hd
        have q0 := ev_of (show ac.eval (.tmp 47) = .pointer (some ⟨T, 0, none⟩) from depS hd 0 47 rfl rfl (by decide) (by decide))
        refine ⟨rfl, StepOK.run (.pointer (some ⟨T, 0, none⟩)) ?_ ⟨fun _ _ => rfl, hp.keep (by decide) (by decide) (by decide)⟩ trivial⟩
        unfold execOp
        simp [go_sem, q0]
      case s2 =>
        intro Lb ac u hAg hp hl hd
        have q0 := ev_of (show ac.eval (.tmp 48) = .pointer (some ⟨T, 0, none⟩) from depS hd 1 48 rfl rfl (by decide) (by decide))
        refine ⟨rfl, StepOK.run (.pointer (some ⟨T, 1, none⟩)) ?_ ⟨fun _ _ => rfl, hp.keep (by decide) (by decide) (by decide)⟩ trivial⟩
        unfold execOp
        simp [go_sem, q0]
      case s3 =>
        intro Lb ac u hAg hp hl hd
        have q0 := ev_of (show ac.eval (.tmp 49) = .pointer (some ⟨T, 1, none⟩) from depS hd 2 49 rfl rfl (by decide) (by decide))
        have y0 := hp.cT HIQ.out HA.out (j := 3) (by decide) hl 1 (v := .slice (some ⟨G, 0, none⟩) m m) rfl
        refine ⟨rfl, StepOK.run (.slice (some ⟨G, 0, none⟩) m m) ?_ ⟨fun _ _ => rfl, hp.keep (by decide) (by decide) (by decide)⟩ trivial⟩
        unfold execOp
        simp [go_sem, q0, y0]
      case s4 =>
        intro Lb ac u hAg hp hl hd
        have q0 := ev_of (show ac.eval (.tmp 2) = .int .i64 (i : Nat) from hAg.eval 2 rfl)
        refine ⟨rfl, StepOK.run (.int .i64 (i : Nat)) ?_ ⟨fun _ _ => rfl, hp.keep (by decide) (by decide) (by decide)⟩ trivial⟩
        unfold execOp
        simp [go_sem, q0]
      case s5 =>
        intro Lb ac u hAg hp hl hd
        have q0 := ev_of (show ac.eval (.tmp 0) = .pointer (some ⟨T, 0, none⟩) from hAg.eval 0 rfl)
        refine ⟨rfl, StepOK.run (.pointer (some ⟨T, 0, none⟩)) ?_ ⟨fun _ _ => rfl, hp.keep (by decide) (by decide) (by decide)⟩ trivial⟩
        unfold execOp
        simp [go_sem, q0]
      case s6 =>
        intro Lb ac u hAg hp hl hd
        have q0 := ev_of (show ac.eval (.tmp 52) = .pointer (some ⟨T, 0, none⟩) from depS hd 5 52 rfl rfl (by decide) (by decide))
        refine ⟨rfl, StepOK.run (.pointer (some ⟨T, 0, none⟩)) ?_ ⟨fun _ _ => rfl, hp.keep (by decide) (by decide) (by decide)⟩ trivial⟩
        unfold execOp
        simp [go_sem, q0]
      case s7 =>
        intro Lb ac u hAg hp hl hd
        have q0 := ev_of (show ac.eval (.tmp 53) = .pointer (some ⟨T, 0, none⟩) from depS hd 6 53 rfl rfl (by decide) (by decide))
        refine ⟨rfl, StepOK.run (.pointer (some ⟨T, 1, none⟩)) ?_ ⟨fun _ _ => rfl, hp.keep (by decide) (by decide) (by decide)⟩ trivial⟩
        unfold execOp
        simp [go_sem, q0]
      case s8 =>
        intro Lb ac u hAg hp hl hd
        have q0 := ev_of (show ac.eval (.tmp 54) = .pointer (some ⟨T, 1, none⟩) from depS hd 7 54 rfl rfl (by decide) (by decide))
        have y0 := hp.cT HIQ.out HA.out (j := 8) (by decide) hl 1 (v := .slice (some ⟨G, 0, none⟩) m m) rfl
        refine ⟨rfl, StepOK.run (.slice (some ⟨G, 0, none⟩) m m) ?_ ⟨fun _ _ => rfl, hp.keep (by decide) (by decide) (by decide)⟩ trivial⟩
        unfold execOp
        simp [go_sem, q0, y0]
      case s9 =>
        intro Lb ac u hAg hp hl hd
        have q0 := ev_of (show ac.eval (.tmp 2) = .int .i64 (i : Nat) from hAg.eval 2 rfl)
        refine ⟨rfl, StepOK.run (.int .i64 (i : Nat)) ?_ ⟨fun _ _ => rfl, hp.keep (by decide) (by decide) (by decide)⟩ trivial⟩
        unfold execOp
        simp [go_sem, q0]
      case s10 =>
        intro Lb ac u hAg hp hl hd
        have q0 := ev_of (show ac.eval (.tmp 55) = .slice (some ⟨G, 0, none⟩) m m from depS hd 8 55 rfl rfl (by decide) (by decide))
        have q1 := ev_of (show ac.eval (.tmp 56) = .int .i64 (i : Nat) from depS hd 9 56 rfl rfl (by decide) (by decide))
        refine ⟨rfl, StepOK.run (.pointer (some ⟨G, i, none⟩)) ?_ ⟨fun _ _ => rfl, hp.keep (by decide) (by decide) (by decide)⟩ trivial⟩
        unfold execOp
        simp [go_sem, q0, q1, him]
      case s11 =>
        intro Lb ac u hAg hp hl hd
        have q0 := ev_of (show ac.eval (.tmp 57) = .pointer (some ⟨G, i, none⟩) from depS hd 10 57 rfl rfl (by decide) (by decide))
        have y0 := hp.cG HIQ.out HA.out HL.out HC.out (j := 11) (by decide) hl
        refine ⟨rfl, StepOK.run (.slice A L C) ?_ ⟨fun _ _ => rfl, hp.keep (by decide) (by decide) (by decide)⟩ trivial⟩
        unfold execOp
        simp [go_sem, q0, y0]
      case s12 =>
        intro Lb ac u hAg hp hl hd
        have q0 := ev_of (show ac.eval (.tmp 1) = .int .i64 p from hAg.eval 1 rfl)
        refine ⟨rfl, StepOK.run (.int .i64 p) ?_ ⟨fun _ _ => rfl, hp.keep (by decide) (by decide) (by decide)⟩ trivial⟩
        unfold execOp
        simp [go_sem, q0]
      case s13 =>
        intro Lb ac u hAg hp hl hd
        have q0 := ev_of (show ac.eval (.tmp 59) = .int .i64 p from depS hd 12 59 rfl rfl (by decide) (by decide))
        refine ⟨rfl, StepOK.run (.slice (some ⟨u.heap.size, 0, none⟩) 1 1) ?_ ⟨fun h1 _ => absurd rfl h1, hp.lay hl⟩ trivial⟩
        unfold execOp
        simp [go_sem, q0]
      case s14 =>
        intro Lb ac u hAg hp hl hd
        have r0 := (show ac.eval (.tmp 58) = .slice A L C from depS hd 11 58 rfl rfl (by decide) (by decide))
        have l13 := depSL hd 13 rfl
        obtain ⟨gx, e60, hgx⟩ := hp.r hl l13
        have hown := (hp.a hl).1.q.own i HIQ.out
        rw [HA.out, HC.out, HL.out] at hown
        exact ⟨rfl, step_app (P := Try.prog) 40 3 i0 _ Try.underlying40 HI.out HZ.out HS.out HB.out rfl (.tmp 58) (.tmp 60) rfl r0 hown e60 hgx (by omega) (fun g1 c1 w1 ho1 hg1 hE1 => ⟨⟨fun _ h1 => absurd rfl h1, hp.app hl l13 ho1 hg1 hE1⟩, trivial⟩)⟩
      case s15 =>
        intro Lb ac u hAg hp hl hd
        have q0 := ev_of (show ac.eval (.tmp 50) = .slice (some ⟨G, 0, none⟩) m m from depS hd 3 50 rfl rfl (by decide) (by decide))
        have q1 := ev_of (show ac.eval (.tmp 51) = .int .i64 (i : Nat) from depS hd 4 51 rfl rfl (by decide) (by decide))
        refine ⟨rfl, StepOK.run (.pointer (some ⟨G, i, none⟩)) ?_ ⟨fun _ _ => rfl, hp.keep (by decide) (by decide) (by decide)⟩ trivial⟩
        unfold execOp
        simp [go_sem, q0, q1, him]
      case s16 =>
        intro Lb ac u hAg hp hl hd
        have r0 := (show ac.eval (.tmp 62) = .pointer (some ⟨G, i, none⟩) from depS hd 15 62 rfl rfl (by decide) (by decide))
        have hall : ∀ j, j < 16 → Lb j = true := by
          intro j hj
          match j, hj with
          | 0, _ => exact depSL hd 0 rfl
          | 1, _ => exact depSL hd 1 rfl
          | 2, _ => exact depSL hd 2 rfl
          | 3, _ => exact depSL hd 3 rfl
          | 4, _ => exact depSL hd 4 rfl
          | 5, _ => exact depSL hd 5 rfl
          | 6, _ => exact depSL hd 6 rfl
          | 7, _ => exact depSL hd 7 rfl
          | 8, _ => exact depSL hd 8 rfl
          | 9, _ => exact depSL hd 9 rfl
          | 10, _ => exact depSL hd 10 rfl
          | 11, _ => exact depSL hd 11 rfl
          | 12, _ => exact depSL hd 12 rfl
          | 13, _ => exact depSL hd 13 rfl
          | 14, _ => exact depSL hd 14 rfl
          | 15, _ => exact depSL hd 15 rfl
          | j + 16, h => exact absurd h (by omega)
        obtain ⟨g1, c1, e61, hcz, hfz, hAp⟩ := hp.store HIQ.out HA.out HL.out HC.out hl hall
        refine ⟨rfl, StepOK.skip (w' := u.setCell ⟨G, i, none⟩ (.slice (some ⟨g1, 0, none⟩) (L + 1) c1)) ?_ ⟨fun _ _ => rfl, hAp⟩ trivial⟩
        unfold execOp
        simp only [r0, e61]
        simp [go_sem, hcz, hfz]
    case tail =>
      intro Lb vs u hp hv hall
      have e0 : vs 0 = .pointer (some ⟨T, 0, none⟩) := hv 0 rfl (by decide) (by decide)
      have e1 : vs 1 = .pointer (some ⟨T, 0, none⟩) := hv 1 rfl (by decide) (by decide)
      have e2 : vs 2 = .pointer (some ⟨T, 1, none⟩) := hv 2 rfl (by decide) (by decide)
      have e3 : vs 3 = .slice (some ⟨G, 0, none⟩) m m := hv 3 rfl (by decide) (by decide)
      have e4 : vs 4 = .int .i64 (i : Nat) := hv 4 rfl (by decide) (by decide)
      have e5 : vs 5 = .pointer (some ⟨T, 0, none⟩) := hv 5 rfl (by decide) (by decide)
      have e6 : vs 6 = .pointer (some ⟨T, 0, none⟩) := hv 6 rfl (by decide) (by decide)
      have e7 : vs 7 = .pointer (some ⟨T, 1, none⟩) := hv 7 rfl (by decide) (by decide)
      have e8 : vs 8 = .slice (some ⟨G, 0, none⟩) m m := hv 8 rfl (by decide) (by decide)
      have e9 : vs 9 = .int .i64 (i : Nat) := hv 9 rfl (by decide) (by decide)
      have e10 : vs 10 = .pointer (some ⟨G, i, none⟩) := hv 10 rfl (by decide) (by decide)
      have e11 : vs 11 = .slice A L C := hv 11 rfl (by decide) (by decide)
      have e12 : vs 12 = .int .i64 p := hv 12 rfl (by decide) (by decide)
      have e15 : vs 15 = .pointer (some ⟨G, i, none⟩) := hv 15 rfl (by decide) (by decide)
      simp only [putsFrom, Act.put, List.setIfInBounds_toArray, List.set_cons_succ, List.set_cons_zero, Nat.reduceAdd, e0, e1, e2, e3, e4, e5, e6, e7, e8, e9, e10, e11, e12, e15]
      have HCC := Lib.hid (hp.c (hall 16 (by decide)))
      generalize vs 13 = z13
      generalize vs 14 = z14
      clear e0 e1 e2 e3 e4 e5 e6 e7 e8 e9 e10 e11 e12 e15 hv hp hall y1 yq
      obtain ⟨As', hTg, hTn⟩ := HCC.out
      have hTb : Tb w0 u T G As' n (Q.set i (qu Q i ++ [p])) := hTg.tb (by rw [List.length_set, HM.out]) HNM.out
      have HTb := Lib.hid hTb
      have HTn := Lib.hid ((Tn.of_below hbB.out).trans hTn)
      have hiL : i < (Q.set i (qu Q i ++ [p])).length := by rw [List.length_set]; exact HIQ.out
      have y1 := hTb.c1
      have yq := hTb.q.cell hiL
      have e9 : qu (Q.set i (qu Q i ++ [p])) i = qu Q i ++ [p] := by rw [qu_set, if_pos ⟨rfl, HIQ.out⟩]
      obtain ⟨gz, hgz, yx⟩ := hTb.q.at hiL (k := 0) (by rw [e9, List.length_append]; exact Nat.lt_of_lt_of_le (Nat.lt_succ_self 0) (by simp))
      rw [e9, List.length_append, HL.out, hgz] at yq
      rw [List.length_set, HM.out] at y1
      rw [e9] at yx
      have hL1 : (0 : Int) < ((L + [p].length : Nat) : Int) := by have : [p].length = 1 := rfl; omega
      generalize L + [p].length = L2 at *
      generalize qC As' i = C2 at *
      clear hTg hTn hTb hiL e9 hgz HCC HAP
      have hq0 : (qu Q i ++ [p]).getD 0 0 = p := by rw [HNIL.out]; rfl
      rw [hq0] at yx
      clear hq0
      go_wp2_with (fail)
      go_ret2
      rw [decide_eq_true HNIL.out]
      exact ⟨rfl, _, HTb.out, HTn.out⟩
  | some x =>
    have hxp : (x == p) = false := by rw [beq_eq_false_iff_ne]; exact fun e => ho2 (by rw [e])
    have HNE := Lib.hid (HSO.out x rfl).1
    have HX0 := Lib.hid (HSO.out x rfl).2
    clear HNO HSO
    clear ho2 ho h hi hh hM hL hA hC hb hw
    go_enter Try.func13, Try.ntmps13
    go_wp2_with (first | (go_at_call 22; refine CL.out.mono ?_; rintro e w' ⟨rfl, rfl⟩) | (go_at_call 26; refine CH.out.mono ?_; rintro e w' ⟨rfl, rfl⟩) | (go_at_call 20; refine CO.out.mono ?_; rintro e w' ⟨rfl, rfl⟩) | (go_at_call 27; refine CB.out.mono ?_; rintro e wB ⟨rfl, hbB⟩; replace hbB := Lib.hid hbB; have HTW := Lib.hid (HT.out.below hbB.out); have y1 := HTW.out.c1; have yq := HTW.out.q.cell HIQ.out; rw [HM.out] at y1; rw [HA.out, HL.out, HC.out] at yq) | (go_at_call 28; refine (contains_at HTW.out HIQ.out p HA.out HL.out HC.out (by omega)).mono ?_; rintro e w' ⟨rfl, rfl⟩; rw [HP.out]))
    have HAP : Hid (ApA w0 wB 49 (#[.int .i64 n, .slice (some ⟨G, 0, none⟩) m m]) T G As Q wB.drew) := Lib.hid (by
      have h1 := HTW.out.tg
      rw [HM.out] at h1
      have h2 : Below wB.heap.size wB wB.drew := (Below.refl _ _).drew
      exact ⟨h1.below h2, Tn.of_below h2, Nat.le_trans hw0 hbB.out.size⟩)
    refine wp_region_slots (lv [.pointer (some ⟨T, 0, none⟩), .pointer (some ⟨T, 0, none⟩), .pointer (some ⟨T, 1, none⟩), .slice (some ⟨G, 0, none⟩) m m, .int .i64 (i : Nat), .pointer (some ⟨T, 0, none⟩), .pointer (some ⟨T, 0, none⟩), .pointer (some ⟨T, 1, none⟩), .slice (some ⟨G, 0, none⟩) m m, .int .i64 (i : Nat), .pointer (some ⟨G, i, none⟩), .slice A L C, .int .i64 p, undef, undef, .pointer (some ⟨G, i, none⟩), undef]) 13 14 60 61 (Ap w0 wB 49 (#[.int .i64 n, .slice (some ⟨G, 0, none⟩) m m]) T G As Q i A L p) (by kernel_rfl) (by kernel_rfl) (by rfl) (by rfl) (Ap.start HAP.out) ?steps ?tail
    case steps =>
      refine ⟨?s0, ?s1, ?s2, ?s3, ?s4, ?s5, ?s6, ?s7, ?s8, ?s9, ?s10, ?s11, ?s12, ?s13, ?s14, ?s15, ?s16, trivial⟩
      case s0 =>
        intro Lb ac u hAg hp hl hd
        have q0 := ev_of (show ac.eval (.tmp 0) = .pointer (some ⟨T, 0, none⟩) from hAg.eval 0 rfl)
        refine ⟨rfl, StepOK.run (.pointer (some ⟨T, 0, none⟩)) ?_ ⟨fun _ _ => rfl, hp.keep (by decide) (by decide) (by decide)⟩ trivial⟩
        unfold execOp
        simp [go_sem, q0]
      case s1 =>
        intro Lb ac u hAg hp hl hd
        have q0 := ev_of (show ac.eval (.tmp 47) = .pointer (some ⟨T, 0, none⟩) from depS hd 0 47 rfl rfl (by decide) (by decide))
        refine ⟨rfl, StepOK.run (.pointer (some ⟨T, 0, none⟩)) ?_ ⟨fun _ _ => rfl, hp.keep (by decide) (by decide) (by decide)⟩ trivial⟩
        unfold execOp
        simp [go_sem, q0]
      case s2 =>
        intro Lb ac u hAg hp hl hd
        have q0 := ev_of (show ac.eval (.tmp 48) = .pointer (some ⟨T, 0, none⟩) from depS hd 1 48 rfl rfl (by decide) (by decide))
        refine ⟨rfl, StepOK.run (.pointer (some ⟨T, 1, none⟩)) ?_ ⟨fun _ _ => rfl, hp.keep (by decide) (by decide) (by decide)⟩ trivial⟩
        unfold execOp
        simp [go_sem, q0]
      case s3 =>
        intro Lb ac u hAg hp hl hd
        have q0 := ev_of (show ac.eval (.tmp 49) = .pointer (some ⟨T, 1, none⟩) from depS hd 2 49 rfl rfl (by decide) (by decide))
        have y0 := hp.cT HIQ.out HA.out (j := 3) (by decide) hl 1 (v := .slice (some ⟨G, 0, none⟩) m m) rfl
        refine ⟨rfl, StepOK.run (.slice (some ⟨G, 0, none⟩) m m) ?_ ⟨fun _ _ => rfl, hp.keep (by decide) (by decide) (by decide)⟩ trivial⟩
        unfold execOp
        simp [go_sem, q0, y0]
      case s4 =>
        intro Lb ac u hAg hp hl hd
        have q0 := ev_of (show ac.eval (.tmp 2) = .int .i64 (i : Nat) from hAg.eval 2 rfl)
        refine ⟨rfl, StepOK.run (.int .i64 (i : Nat)) ?_ ⟨fun _ _ => rfl, hp.keep (by decide) (by decide) (by decide)⟩ trivial⟩
        unfold execOp
        simp [go_sem, q0]
      case s5 =>
        intro Lb ac u hAg hp hl hd
        have q0 := ev_of (show ac.eval (.tmp 0) = .pointer (some ⟨T, 0, none⟩) from hAg.eval 0 rfl)
        refine ⟨rfl, StepOK.run (.pointer (some ⟨T, 0, none⟩)) ?_ ⟨fun _ _ => rfl, hp.keep (by decide) (by decide) (by decide)⟩ trivial⟩
        unfold execOp
        simp [go_sem, q0]
      case s6 =>
        intro Lb ac u hAg hp hl hd
        have q0 := ev_of (show ac.eval (.tmp 52) = .pointer (some ⟨T, 0, none⟩) from depS hd 5 52 rfl rfl (by decide) (by decide))
        refine ⟨rfl, StepOK.run (.pointer (some ⟨T, 0, none⟩)) ?_ ⟨fun _ _ => rfl, hp.keep (by decide) (by decide) (by decide)⟩ trivial⟩
        unfold execOp
        simp [go_sem, q0]
      case s7 =>
        intro Lb ac u hAg hp hl hd
        have q0 := ev_of (show ac.eval (.tmp 53) = .pointer (some ⟨T, 0, none⟩) from depS hd 6 53 rfl rfl (by decide) (by decide))
        refine ⟨rfl, StepOK.run (.pointer (some ⟨T, 1, none⟩)) ?_ ⟨fun _ _ => rfl, hp.keep (by decide) (by decide) (by decide)⟩ trivial⟩
        unfold execOp
        simp [go_sem, q0]
      case s8 =>
        intro Lb ac u hAg hp hl hd
        have q0 := ev_of (show ac.eval (.tmp 54) = .pointer (some ⟨T, 1, none⟩) from depS hd 7 54 rfl rfl (by decide) (by decide))
        have y0 := hp.cT HIQ.out HA.out (j := 8) (by decide) hl 1 (v := .slice (some ⟨G, 0, none⟩) m m) rfl
        refine ⟨rfl, StepOK.run (.slice (some ⟨G, 0, none⟩) m m) ?_ ⟨fun _ _ => rfl, hp.keep (by decide) (by decide) (by decide)⟩ trivial⟩
        unfold execOp
        simp [go_sem, q0, y0]
      case s9 =>
        intro Lb ac u hAg hp hl hd
        have q0 := ev_of (show ac.eval (.tmp 2) = .int .i64 (i : Nat) from hAg.eval 2 rfl)
        refine ⟨rfl, StepOK.run (.int .i64 (i : Nat)) ?_ ⟨fun _ _ => rfl, hp.keep (by decide) (by decide) (by decide)⟩ trivial⟩
        unfold execOp
        simp [go_sem, q0]
      case s10 =>
        intro Lb ac u hAg hp hl hd
        have q0 := ev_of (show ac.eval (.tmp 55) = .slice (some ⟨G, 0, none⟩) m m from depS hd 8 55 rfl rfl (by decide) (by decide))
        have q1 := ev_of (show ac.eval (.tmp 56) = .int .i64 (i : Nat) from depS hd 9 56 rfl rfl (by decide) (by decide))
        refine ⟨rfl, StepOK.run (.pointer (some ⟨G, i, none⟩)) ?_ ⟨fun _ _ => rfl, hp.keep (by decide) (by decide) (by decide)⟩ trivial⟩
        unfold execOp
        simp [go_sem, q0, q1, him]
      case s11 =>
        intro Lb ac u hAg hp hl hd
        have q0 := ev_of (show ac.eval (.tmp 57) = .pointer (some ⟨G, i, none⟩) from depS hd 10 57 rfl rfl (by decide) (by decide))
        have y0 := hp.cG HIQ.out HA.out HL.out HC.out (j := 11) (by decide) hl
        refine ⟨rfl, StepOK.run (.slice A L C) ?_ ⟨fun _ _ => rfl, hp.keep (by decide) (by decide) (by decide)⟩ trivial⟩
        unfold execOp
        simp [go_sem, q0, y0]
      case s12 =>
        intro Lb ac u hAg hp hl hd
        have q0 := ev_of (show ac.eval (.tmp 1) = .int .i64 p from hAg.eval 1 rfl)
        refine ⟨rfl, StepOK.run (.int .i64 p) ?_ ⟨fun _ _ => rfl, hp.keep (by decide) (by decide) (by decide)⟩ trivial⟩
        unfold execOp
        simp [go_sem, q0]
      case s13 =>
        intro Lb ac u hAg hp hl hd
        have q0 := ev_of (show ac.eval (.tmp 59) = .int .i64 p from depS hd 12 59 rfl rfl (by decide) (by decide))
        refine ⟨rfl, StepOK.run (.slice (some ⟨u.heap.size, 0, none⟩) 1 1) ?_ ⟨fun h1 _ => absurd rfl h1, hp.lay hl⟩ trivial⟩
        unfold execOp
        simp [go_sem, q0]
      case s14 =>
        intro Lb ac u hAg hp hl hd
        have r0 := (show ac.eval (.tmp 58) = .slice A L C from depS hd 11 58 rfl rfl (by decide) (by decide))
        have l13 := depSL hd 13 rfl
        obtain ⟨gx, e60, hgx⟩ := hp.r hl l13
        have hown := (hp.a hl).1.q.own i HIQ.out
        rw [HA.out, HC.out, HL.out] at hown
        exact ⟨rfl, step_app (P := Try.prog) 40 3 i0 _ Try.underlying40 HI.out HZ.out HS.out HB.out rfl (.tmp 58) (.tmp 60) rfl r0 hown e60 hgx (by omega) (fun g1 c1 w1 ho1 hg1 hE1 => ⟨⟨fun _ h1 => absurd rfl h1, hp.app hl l13 ho1 hg1 hE1⟩, trivial⟩)⟩
      case s15 =>
        intro Lb ac u hAg hp hl hd
        have q0 := ev_of (show ac.eval (.tmp 50) = .slice (some ⟨G, 0, none⟩) m m from depS hd 3 50 rfl rfl (by decide) (by decide))
        have q1 := ev_of (show ac.eval (.tmp 51) = .int .i64 (i : Nat) from depS hd 4 51 rfl rfl (by decide) (by decide))
        refine ⟨rfl, StepOK.run (.pointer (some ⟨G, i, none⟩)) ?_ ⟨fun _ _ => rfl, hp.keep (by decide) (by decide) (by decide)⟩ trivial⟩
        unfold execOp
        simp [go_sem, q0, q1, him]
      case s16 =>
        intro Lb ac u hAg hp hl hd
        have r0 := (show ac.eval (.tmp 62) = .pointer (some ⟨G, i, none⟩) from depS hd 15 62 rfl rfl (by decide) (by decide))
        have hall : ∀ j, j < 16 → Lb j = true := by
          intro j hj
          match j, hj with
          | 0, _ => exact depSL hd 0 rfl
          | 1, _ => exact depSL hd 1 rfl
          | 2, _ => exact depSL hd 2 rfl
          | 3, _ => exact depSL hd 3 rfl
          | 4, _ => exact depSL hd 4 rfl
          | 5, _ => exact depSL hd 5 rfl
          | 6, _ => exact depSL hd 6 rfl
          | 7, _ => exact depSL hd 7 rfl
          | 8, _ => exact depSL hd 8 rfl
          | 9, _ => exact depSL hd 9 rfl
          | 10, _ => exact depSL hd 10 rfl
          | 11, _ => exact depSL hd 11 rfl
          | 12, _ => exact depSL hd 12 rfl
          | 13, _ => exact depSL hd 13 rfl
          | 14, _ => exact depSL hd 14 rfl
          | 15, _ => exact depSL hd 15 rfl
          | j + 16, h => exact absurd h (by omega)
        obtain ⟨g1, c1, e61, hcz, hfz, hAp⟩ := hp.store HIQ.out HA.out HL.out HC.out hl hall
        refine ⟨rfl, StepOK.skip (w' := u.setCell ⟨G, i, none⟩ (.slice (some ⟨g1, 0, none⟩) (L + 1) c1)) ?_ ⟨fun _ _ => rfl, hAp⟩ trivial⟩
        unfold execOp
        simp only [r0, e61]
        simp [go_sem, hcz, hfz]
    case tail =>
      intro Lb vs u hp hv hall
      have e0 : vs 0 = .pointer (some ⟨T, 0, none⟩) := hv 0 rfl (by decide) (by decide)
      have e1 : vs 1 = .pointer (some ⟨T, 0, none⟩) := hv 1 rfl (by decide) (by decide)
      have e2 : vs 2 = .pointer (some ⟨T, 1, none⟩) := hv 2 rfl (by decide) (by decide)
      have e3 : vs 3 = .slice (some ⟨G, 0, none⟩) m m := hv 3 rfl (by decide) (by decide)
      have e4 : vs 4 = .int .i64 (i : Nat) := hv 4 rfl (by decide) (by decide)
      have e5 : vs 5 = .pointer (some ⟨T, 0, none⟩) := hv 5 rfl (by decide) (by decide)
      have e6 : vs 6 = .pointer (some ⟨T, 0, none⟩) := hv 6 rfl (by decide) (by decide)
      have e7 : vs 7 = .pointer (some ⟨T, 1, none⟩) := hv 7 rfl (by decide) (by decide)
      have e8 : vs 8 = .slice (some ⟨G, 0, none⟩) m m := hv 8 rfl (by decide) (by decide)
      have e9 : vs 9 = .int .i64 (i : Nat) := hv 9 rfl (by decide) (by decide)
      have e10 : vs 10 = .pointer (some ⟨G, i, none⟩) := hv 10 rfl (by decide) (by decide)
      have e11 : vs 11 = .slice A L C := hv 11 rfl (by decide) (by decide)
      have e12 : vs 12 = .int .i64 p := hv 12 rfl (by decide) (by decide)
      have e15 : vs 15 = .pointer (some ⟨G, i, none⟩) := hv 15 rfl (by decide) (by decide)
      simp only [putsFrom, Act.put, List.setIfInBounds_toArray, List.set_cons_succ, List.set_cons_zero, Nat.reduceAdd, e0, e1, e2, e3, e4, e5, e6, e7, e8, e9, e10, e11, e12, e15]
      have HCC := Lib.hid (hp.c (hall 16 (by decide)))
      generalize vs 13 = z13
      generalize vs 14 = z14
      clear e0 e1 e2 e3 e4 e5 e6 e7 e8 e9 e10 e11 e12 e15 hv hp hall y1 yq
      obtain ⟨As', hTg, hTn⟩ := HCC.out
      have hTb : Tb w0 u T G As' n (Q.set i (qu Q i ++ [p])) := hTg.tb (by rw [List.length_set, HM.out]) HNM.out
      have HTb := Lib.hid hTb
      have HTn := Lib.hid ((Tn.of_below hbB.out).trans hTn)
      have hiL : i < (Q.set i (qu Q i ++ [p])).length := by rw [List.length_set]; exact HIQ.out
      have y1 := hTb.c1
      have yq := hTb.q.cell hiL
      have e9 : qu (Q.set i (qu Q i ++ [p])) i = qu Q i ++ [p] := by rw [qu_set, if_pos ⟨rfl, HIQ.out⟩]
      obtain ⟨gz, hgz, yx⟩ := hTb.q.at hiL (k := 0) (by rw [e9, List.length_append]; exact Nat.lt_of_lt_of_le (Nat.lt_succ_self 0) (by simp))
      rw [e9, List.length_append, HL.out, hgz] at yq
      rw [List.length_set, HM.out] at y1
      rw [e9] at yx
      have hL1 : (0 : Int) < ((L + [p].length : Nat) : Int) := by have : [p].length = 1 := rfl; omega
      generalize L + [p].length = L2 at *
      generalize qC As' i = C2 at *
      clear hTg hTn hTb hiL e9 hgz HCC HAP
      have hq0 : (qu Q i ++ [p]).getD 0 0 = x := HX0.out
      rw [hq0] at yx
      clear hq0
      go_wp2_with (fail)
      go_ret2
      rw [decide_eq_false HNE.out]
      exact ⟨rfl, _, HTb.out, HTn.out⟩
end
end Go.Proofs.Ythlodfahajaneaa
