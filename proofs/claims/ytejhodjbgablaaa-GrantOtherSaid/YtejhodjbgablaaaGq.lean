/- The document's: is it granted? -/
import Derived.Test.YtejhodjbgablaaaGp
import Derived.Test.YtejhodjbgablaaaGk
set_option linter.unusedSimpArgs false
set_option linter.unusedVariables false
namespace Go.Proofs.Ytejhodjbgablaaa
open Go.RowKit
/-- Three blocks: a process, attributes, the list of these. -/
structure Pg (w V : World) (c : Cr) (A : Option Addr) (n : Nat) (x : At) (p : ALie) (g : Nat) : Prop where
  pb : Pb w V c A n x p
  ab : Ab V g x.ac p.p
theorem Pg.on {w V V' : World} {c : Cr} {A : Option Addr} {n : Nat} {x : At} {p : ALie} {g : Nat} (h : Pg w V c A n x p g) (hb : Below V.heap.size V V') : Pg w V' c A n x p g := ⟨h.pb.on hb, h.ab.on hb⟩
theorem Ab.all0 {w : World} {b : Nat} {x : Ac} {p : Lie} (h : Ab w b x p) : ∀ j u, (x.c p).toList[j]? = some u → w.cell? ⟨b, 0 + j, none⟩ = some u := fun j u hu => by
  rw [Nat.zero_add, h.cell]
  simpa using hu
section
variable {a : Act} {o : Oper} {u : World}
theorem run_loadL {x : Operand} (ho : o.op = .load 28 x) (g : Nat) (y : Ac) (p : Lie) (hx : a.eval x = .pointer (some ⟨g, 0, none⟩)) (h : Ab u g y p) : (execOp a.eval o).run Try.prog u = .ok (.value (y.v p)) u := by
  unfold execOp
  simp only [ho, hx, Instr.loadAt, Instr.sureAddr, Sem.run_bind, Sem.run_pure, Result.andThen_ok, run_loadVar_row (P := Try.prog) u g 28 28 _ (0, 0) _ h Try.underlying28 rfl acl_size]
theorem run_loadC {x : Operand} (ho : o.op = .load 25 x) (g : Nat) (y : Cr) (A : Option Addr) (n : Nat) (hx : a.eval x = .pointer (some ⟨g, 0, none⟩)) (h : Cb u g y A n) : (execOp a.eval o).run Try.prog u = .ok (.value (y.v A n)) u := by
  unfold execOp
  simp only [ho, hx, Instr.loadAt, Instr.sureAddr, Sem.run_bind, Sem.run_pure, Result.andThen_ok, run_loadVar_row (P := Try.prog) u g 25 25 _ (0, 0) _ h Try.underlying25 rfl cred_size]
theorem run_iaddrN {x y : Operand} (ho : o.op = .indexAddr 26 x y) (g off n c i : Nat) (h1 : a.eval x = .slice (some ⟨g, off, none⟩) n c) (h2 : a.eval y = .int .i64 (i : Nat)) (hi : i < n) : (execOp a.eval o).run Try.prog u = .ok (.value (.pointer (some ⟨g, off + i * 2, none⟩))) u := by
  have hi2 : (i : Int) < (n : Int) := by omega
  unfold execOp
  rw [ho]
  simp only [h1, h2]
  simp [go_sem, hi2]
end
theorem find_first {L : List Nm} {f : Nm → Bool} : ∀ {k : Nat} {r : Nm}, L[k]? = some r → f r = true → (∀ (j : Nat) q, j < k → L[j]? = some q → f q = false) → L.find? f = some r := by
  induction L with
  | nil => intro k r h; simp at h
  | cons p t ih =>
    intro k r h hf hn
    cases k with
    | zero =>
      simp only [List.getElem?_cons_zero, Option.some.injEq] at h
      subst h
      rw [List.find?_cons, hf]
    | succ k =>
      rw [List.getElem?_cons_succ] at h
      rw [List.find?_cons, hn 0 p (by omega) rfl]
      exact ih h hf fun j q hj hq => hn (j + 1) q (by omega) (by rw [List.getElem?_cons_succ]; exact hq)
theorem find_none {L : List Nm} {f : Nm → Bool} {n : Nat} (hl : L.length = n) (hn : ∀ (j : Nat) q, j < n → L[j]? = some q → f q = false) : L.find? f = none := by
  rw [List.find?_eq_none]
  intro q hq
  obtain ⟨j, hj⟩ := List.getElem?_of_mem hq
  rw [hn j q (by rw [← hl]; exact (List.getElem?_eq_some_iff.1 hj).1) hj]
  simp
theorem has_below (p q : Nat) (w : World) (hp : p < 256) (hq : q < 256) : Calls Try.prog 43 #[.int .u8 (p : Nat), .int .u8 (q : Nat)] w fun e w' => e = .returned (.bool (hasB p q)) ∧ Below w.heap.size w w' := (has_calls p q w hp hq).mono (by
  rintro e w' ⟨rfl, rfl⟩
  exact ⟨rfl, Below.refl _ _⟩)
theorem maskedN_lt {x : Ac} {p : Nat} (h : p < 256) : maskedN x p < 256 := by
  unfold maskedN
  split
  · exact Nat.lt_of_le_of_lt Nat.and_le_left h
  · exact h
set_option maxRecDepth 100000 in
set_option maxHeartbeats 16000000 in
theorem granted_calls (c : Cr) (A : Option Addr) (n : Nat) (x : At) (p : ALie) (dir : Bool) (q : Nat) (w : World) (hc : CLies w c A) (h : ALies w x p) (hs : ASm x) (hm : mayB x.ac = true) (hq : q < 256) :
    Calls Try.prog 28 #[c.v A n, x.v p, .bool dir, .int .u8 (q : Nat)] w fun e w' => e = .returned (.bool (grantR c x dir q)) ∧ Below w.heap.size w w' := by
  have hmy := mayB_iff.1 hm
  obtain ⟨hu7, _⟩ := rise_nm hmy.us
  obtain ⟨hg7, _⟩ := rise_nm hmy.gs
  have how : x.ac.ow < 256 := by have := hmy.ow; omega
  have hgr : x.ac.gr < 256 := by have := hmy.gr; omega
  have hot : x.ac.ot < 256 := by have := hmy.ot; omega
  have hms : x.ac.ms < 256 := by have := hmy.ms; omega
  have HU8 : Hid (∀ r ∈ x.ac.us, r.pm < 256) := Lib.hid (fun r hr => by have := hu7 r hr; omega)
  have HG8 : Hid (∀ r ∈ x.ac.gs, r.pm < 256) := Lib.hid (fun r hr => by have := hg7 r hr; omega)
  obtain ⟨V, hV⟩ : ∃ V, V = (w.alloc (.cells (c.c A n) 25)).alloc (.cells (x.c p) 31) := ⟨_, rfl⟩
  have S0 : Hid (Pb w V c A n x p) := Lib.hid (by rw [hV]; exact Pb.start hc h)
  have HS := Lib.hid hs
  clear hc h hs hm hmy hu7 hg7
  go_enter Try.func28, Try.ntmps28
  go_upto_region 1 with (fail)
  rw [← hV]
  clear hV
  go_upto_region 2 with (refine wpList_load_part rfl 28 (.tmp 13) rfl (w.heap.size + 1) 3 rfl (x.ac.c p.p).toList _ S0.out.bt.ac Try.underlying28 rfl acl_size (x.ac.v p.p) rfl ?_)
  obtain ⟨U, hU⟩ : ∃ U, U = V.alloc (.cells #[.int .u8 (x.ac.ow : Nat), .int .u8 (x.ac.gr : Nat), .int .u8 (x.ac.ot : Nat), .slice p.p.A x.ac.us.length p.p.c, .slice p.p.B x.ac.gs.length p.p.d, .bool x.ac.hm, .int .u8 (x.ac.ms : Nat)] 28) := ⟨_, rfl⟩
  have hS1 : Pg w U c A n x p V.heap.size := by rw [hU]; exact ⟨S0.out.one _, Ab.new V x.ac p.p⟩
  rw [← hU]
  clear hU S0
  generalize V.heap.size = g at *
  obtain ⟨b, hbx⟩ : ∃ b, w.heap.size = b := ⟨_, rfl⟩
  have hcb := hS1.pb.cb
  have hbt := hS1.pb.bt
  rw [hbx] at hcb hbt ⊢
  have HBX := Lib.hid hbx
  have HCB := Lib.hid hcb
  have HBT := Lib.hid hbt
  have HAB := Lib.hid hS1.ab
  have HP := Lib.hid hS1.pb
  have HGR : Hid (grantR c x dir q = if c.ui = 0 then dir || (!hasB q 1 || runsR x.ac) else if c.ui = x.ui then hasB x.ac.ow q else match x.ac.us.find? (fun p => decide (p.id = c.ui)) with | some p => hasB (maskedN x.ac p.pm) q | none => if inB c x.gi && hasB (maskedN x.ac x.ac.gr) q then true else if x.ac.gs.any (oneR c x.ac q) then true else !(inB c x.gi || x.ac.gs.any fun p => inB c p.id) && hasB x.ac.ot q) := Lib.hid rfl
  have yc0 := hcb.c0
  have ya1 := hbt.c1
  have yl0 : U.cell? ⟨g, 0, none⟩ = some (.int .u8 (x.ac.ow : Nat)) := hS1.ab.cell 0
  clear hcb hbt hS1 hbx
  obtain ⟨u, hu⟩ : ∃ u, c.ui = u := ⟨_, rfl⟩
  obtain ⟨v, hv⟩ : ∃ v, x.ui = v := ⟨_, rfl⟩
  have HU := Lib.hid hu
  rw [hu] at HGR yc0
  rw [hv] at HGR ya1
  clear hu hv
  by_cases h0 : u = 0
  case pos =>
    have k0 : ((u : Int) == 0) = true := by rw [h0]; rfl
    have HV := Lib.hid (HGR.out.trans (if_pos h0))
    clear h0 HGR
    cases dir
    case true =>
      go_wp2_with (fail)
      go_ret
      exact ⟨by rw [HV.out]; rfl, HP.out.be⟩
    case false =>
      have HH := Lib.hid (has_calls q 1 U hq (by omega))
      generalize hasB q 1 = t1 at *
      go_wp2_with (fail)
      refine HH.out.mono ?_
      rintro e w' ⟨rfl, rfl⟩
      cases t1
      case false =>
        go_wp2_with (fail)
        go_ret
        exact ⟨by rw [HV.out]; rfl, HP.out.be⟩
      case true =>
        go_wp2_with (refine wpList_load_part rfl 28 (.tmp 9) rfl g 0 rfl (x.ac.c p.p).toList _ HAB.out.all0 Try.underlying28 rfl acl_size (x.ac.v p.p) rfl ?_)
        refine (rruns_calls x.ac p.p w' HP.out.al.ac HS.out.ac HU8.out HG8.out how hgr hot).mono ?_
        rintro e w2 ⟨rfl, hb⟩
        have HB2 := Lib.hid (HP.out.be.trans (hb.mono HP.out.be.size))
        clear hb
        generalize runsR x.ac = t2 at *
        go_wp2_with (fail)
        go_ret
        exact ⟨by rw [HV.out]; rfl, HB2.out⟩
  case neg =>
  have k0 : ((u : Int) == 0) = false := by rw [beq_eq_false_iff_ne]; omega
  have HG1 := Lib.hid (HGR.out.trans (if_neg h0))
  clear h0 HGR
  by_cases h1 : u = v
  case pos =>
    have k1 : ((u : Int) == (v : Int)) = true := by rw [h1]; exact beq_self_eq_true _
    have HV := Lib.hid (HG1.out.trans (if_pos h1))
    have HH := Lib.hid (has_calls x.ac.ow q U how hq)
    clear h1 HG1
    go_wp2_with (fail)
    refine HH.out.mono ?_
    rintro e w' ⟨rfl, rfl⟩
    go_wp2_with (fail)
    go_ret
    exact ⟨by rw [HV.out]; rfl, HP.out.be⟩
  case neg =>
  have k1 : ((u : Int) == (v : Int)) = false := by rw [beq_eq_false_iff_ne]; omega
  have HG2 := Lib.hid (HG1.out.trans (if_neg h1))
  clear h1 HG1
  obtain ⟨nu, hnu⟩ : ∃ m, x.ac.us.length = m := ⟨_, rfl⟩
  obtain ⟨ng, hng⟩ : ∃ m, x.ac.gs.length = m := ⟨_, rfl⟩
  have hnu40 : nu ≤ 1099511627776 := by rw [← hnu]; exact HS.out.ac.us
  have hng40 : ng ≤ 1099511627776 := by rw [← hng]; exact HS.out.ac.gs
  have HNU := Lib.hid hnu
  have HNG := Lib.hid hng
  have yl3 : U.cell? ⟨g, 3, none⟩ = some (.slice p.p.A nu p.p.c) := by rw [← hnu]; exact HAB.out.cell 3
  clear hnu hng
  go_wp2_with (fail)
  clear ya1 yl0
  go_loopw [10] (fun i wr => ∃ k : Nat, i = .int .i64 k ∧ k ≤ nu ∧ Hid (∀ (j : Nat) r, j < k → x.ac.us[j]? = some r → decide (r.id = u) = false) ∧ ∃ n1, wr = U.drewN n1) (fun i _ => nu - (intOf i).toNat)
  case atStart => exact ⟨0, rfl, by omega, Lib.hid (fun j q hj => absurd hj (Nat.not_lt_zero _)), 0, rfl⟩
  case round =>
    obtain ⟨k, rfl, hk, hR, n1, rfl⟩ := hrel
    by_cases hkn : k < nu
    · obtain ⟨b1, o1, hA, hlt, hcell⟩ := HP.out.al.ac.us.nm (by rw [HNU.out]; omega)
      rw [hA] at yl3
      obtain ⟨r, hp⟩ : ∃ r, x.ac.us[k]? = some r := ⟨_, List.getElem?_eq_getElem (by rw [HNU.out]; exact hkn)⟩
      obtain ⟨e1, e2⟩ := hcell k r hp
      have HPP := Lib.hid hp
      have HA := Lib.hid hA
      clear hp hcell hA
      generalize hri : r.id = ri at *
      by_cases hru : ri = u
      · have d1 : ((ri : Int) == (u : Int)) = true := by rw [hru]; exact beq_self_eq_true _
        go_wp2_with (fail)
        go_quiet (fail)
        have hfind : x.ac.us.find? (fun p => decide (p.id = u)) = some r := find_first HPP.out (by rw [hri]; exact decide_eq_true hru) hR.out
        have hr8 : r.pm < 256 := HU8.out r (List.mem_of_getElem? HPP.out)
        obtain ⟨W, hW⟩ : ∃ W, W = (U.drewN n1).drewN nq := ⟨_, rfl⟩
        have hbW : Below U.heap.size U W := by rw [hW]; exact below_drewN (below_drewN (Below.refl _ _) _) _
        have HPW : Hid (Pg w W c A n x p g) := Lib.hid ⟨HP.out.on hbW, HAB.out.on hbW⟩
        rw [← hW]
        replace e2 : W.cell? ⟨b1, o1 + k * 2 + 1, none⟩ = some (.int .u8 (r.pm : Nat)) := by rw [hW]; exact e2
        replace hlt : b1 < W.heap.size := by rw [hW]; exact hlt
        obtain ⟨rp, hrp⟩ : ∃ m, r.pm = m := ⟨_, rfl⟩
        obtain ⟨mp, hmp⟩ : ∃ m, maskedN x.ac rp = m := ⟨_, rfl⟩
        obtain ⟨rb, hrb⟩ : ∃ m, hasB mp q = m := ⟨_, rfl⟩
        have HPR := Lib.hid hrp
        have HV : Hid (grantR c x dir q = rb) := Lib.hid (by rw [HG2.out, hfind, ← hrb, ← hmp, ← hrp])
        have HKM : Hid (∀ u, Calls Try.prog 45 #[x.ac.v p.p, .int .u8 (rp : Nat)] u fun e w' => e = .returned (.int .u8 (mp : Nat)) ∧ Below u.heap.size u w') := Lib.hid (fun u => hmp ▸ masked_calls x.ac p.p rp u (by omega) hms)
        have HKH : Hid (∀ u, Calls Try.prog 43 #[.int .u8 (mp : Nat), .int .u8 (q : Nat)] u fun e w' => e = .returned (.bool rb) ∧ Below u.heap.size u w') := Lib.hid (fun u => hrb ▸ has_below mp q u (by rw [← hmp]; exact maskedN_lt (by omega)) hq)
        have HAB2 := Lib.hid (HPW.out.ab)
        have HY3 : Hid (∀ u, On W u → u.cell? ⟨g, 3, none⟩ = some (.slice (some ⟨b1, o1, none⟩) nu p.p.c)) := Lib.hid (fun u hb => by rw [← HA.out, ← HNU.out]; exact (HPW.out.ab.on hb).cell 3)
        have HE2 : Hid (∀ u, On W u → u.cell? ⟨b1, o1 + k * 2 + 1, none⟩ = some (.int .u8 (rp : Nat))) := Lib.hid (fun u hb => (Below.cell hb hlt).trans (HPR.out ▸ e2))
        clear hW hbW e1 e2 hfind hrp hmp hrb hri hru hR HG2 HP HCB HBT HAB yl3 d1
        go_upto_region 10 with (fail)
        refine wp_region4 [.val (x.ac.v p.p), .val (.pointer (some ⟨g, 3, none⟩)), .val (.slice (some ⟨b1, o1, none⟩) nu p.p.c), .val (.int .i64 (k : Nat)), .val (.pointer (some ⟨b1, o1 + k * 2, none⟩)), .val (.pointer (some ⟨b1, o1 + k * 2 + 1, none⟩)), .val (.int .u8 (rp : Nat)), .val (.int .u8 (mp : Nat)), .val (.int .u8 (q : Nat)), .val (.bool rb), .val (.bool rb)] (by kernel_rfl) (by kernel_rfl) (by kernel_rfl) ?steps ?rest
        case steps =>
          refine ⟨?s0, ?s1, ?s2, ?s3, ?s4, ?s5, ?s6, ?s7, ?s8, ?s9, ?s10, trivial⟩
          case s0 =>
            exact st4_val _ rfl (.inl rfl) fun a u hb hA hd => run_loadL rfl g x.ac p.p (hA.eval 9 rfl) (HAB2.out.on hb)
          case s1 =>
            exact st4_val _ rfl (.inl rfl) fun a u hb hA hd => by
              have q0 := ev_of (show a.eval (.tmp 9) = .pointer (some ⟨g, 0, none⟩) from hA.eval 9 rfl)
              unfold execOp
              simp [go_sem, q0]
          case s2 =>
            exact st4_val _ rfl (.inl rfl) fun a u hb hA hd => by
              have q0 := ev_of (show a.eval (.tmp 54) = .pointer (some ⟨g, 3, none⟩) from hd 1 54 rfl rfl _ rfl)
              have y0 := HY3.out u hb
              unfold execOp
              simp [go_sem, q0, y0]
          case s3 =>
            exact st4_val _ rfl (.inl rfl) fun a u hb hA hd => by
              have q0 := ev_of (show a.eval (.tmp 10) = .int .i64 (k : Nat) from hA.eval 10 rfl)
              unfold execOp
              simp [go_sem, q0]
          case s4 =>
            exact st4_val _ rfl (.inl rfl) fun a u hb hA hd => run_iaddrN rfl b1 o1 nu p.p.c k (hd 2 55 rfl rfl _ rfl) (hd 3 56 rfl rfl _ rfl) hkn
          case s5 =>
            exact st4_val _ rfl (.inl rfl) fun a u hb hA hd => by
              have q0 := ev_of (show a.eval (.tmp 57) = .pointer (some ⟨b1, o1 + k * 2, none⟩) from hd 4 57 rfl rfl _ rfl)
              unfold execOp
              simp [go_sem, q0]
          case s6 =>
            exact st4_val _ rfl (.inl rfl) fun a u hb hA hd => by
              have q0 := ev_of (show a.eval (.tmp 58) = .pointer (some ⟨b1, o1 + k * 2 + 1, none⟩) from hd 5 58 rfl rfl _ rfl)
              have y0 := HE2.out u hb
              unfold execOp
              simp [go_sem, q0, y0]
          case s7 =>
            refine st4_call _ rfl (.inl rfl) 45 fun a u hb hA hd => ?_
            have q0 := ev_of (show a.eval (.tmp 53) = x.ac.v p.p from hd 0 53 rfl rfl _ rfl)
            have q1 := ev_of (show a.eval (.tmp 59) = .int .u8 (rp : Nat) from hd 6 59 rfl rfl _ rfl)
            refine ⟨#[x.ac.v p.p, .int .u8 (rp : Nat)], ?_, (HKM.out u).mono ?_⟩
            · unfold execOp
              simp [go_sem, q0, q1]
            · rintro e w' ⟨rfl, hb'⟩
              exact ⟨_, rfl, rfl, hb'⟩
          case s8 =>
            exact st4_val _ rfl (.inl rfl) fun a u hb hA hd => by
              have q0 := ev_of (show a.eval (.tmp 3) = .int .u8 (q : Nat) from hA.eval 3 rfl)
              unfold execOp
              simp [go_sem, q0]
          case s9 =>
            refine st4_call _ rfl (.inl rfl) 43 fun a u hb hA hd => ?_
            have q0 := ev_of (show a.eval (.tmp 60) = .int .u8 (mp : Nat) from hd 7 60 rfl rfl _ rfl)
            have q1 := ev_of (show a.eval (.tmp 61) = .int .u8 (q : Nat) from hd 8 61 rfl rfl _ rfl)
            refine ⟨#[.int .u8 (mp : Nat), .int .u8 (q : Nat)], ?_, (HKH.out u).mono ?_⟩
            · unfold execOp
              simp [go_sem, q0, q1]
            · rintro e w' ⟨rfl, hb'⟩
              exact ⟨_, rfl, rfl, hb'⟩
          case s10 =>
            exact st4_assign 9 62 rfl (.inl rfl) rfl rfl rfl
        case rest =>
          intro vs u hb hR
          have ee : vs 10 = .bool rb := hR 10 (by decide)
          simp only [putsFrom, Act.put, List.setIfInBounds_toArray, List.set_cons_succ, List.set_cons_zero, ee]
          generalize vs 0 = z0
          generalize vs 1 = z1
          generalize vs 2 = z2
          generalize vs 3 = z3
          generalize vs 4 = z4
          generalize vs 5 = z5
          generalize vs 6 = z6
          generalize vs 7 = z7
          generalize vs 8 = z8
          generalize vs 9 = z9
          have HBE := Lib.hid (HPW.out.pb.be.trans (Below.mono hb HPW.out.pb.be.size))
          clear hR hb
          go_wp2_with (fail)
          go_ret
          exact ⟨by rw [HV.out]; rfl, HBE.out⟩
      · have d1 : ((ri : Int) == (u : Int)) = false := by rw [beq_eq_false_iff_ne]; omega
        have HR2 := Lib.hid (none_more (f := fun r => decide (r.id = u)) hR.out HPP.out (by rw [hri]; exact decide_eq_false hru))
        clear hri hru
        go_wp2_with (fail)
        go_quiet (fail)
        go_wp2_with (fail)
        go_roundw
        case rel => exact ⟨k + 1, by go_num, by omega, HR2, _, rfl⟩
        case measure => simp [intOf]; omega
    · obtain rfl : k = nu := by omega
      have HG3 : Hid (grantR c x dir q = if inB c x.gi && hasB (maskedN x.ac x.ac.gr) q then true else if x.ac.gs.any (oneR c x.ac q) then true else !(inB c x.gi || x.ac.gs.any fun p => inB c p.id) && hasB x.ac.ot q) := Lib.hid (by rw [HG2.out, find_none HNU.out hR.out])
      have hb1 : Below U.heap.size U (U.drewN n1) := below_drewN (Below.refl _ _) _
      have HP1 := Lib.hid (HP.out.on hb1)
      have HAB1 := Lib.hid (HAB.out.on hb1)
      have HCB1 := Lib.hid (HCB.out.on hb1)
      have ya2 : (U.drewN n1).cell? ⟨b + 1, 2, none⟩ = some (.int .u16 (x.gi : Nat)) := HBT.out.c2
      clear hR HG2
      go_wp2_with (refine wpList_load_part rfl 25 (.tmp 4) rfl b 0 rfl (c.c A n).toList _ HCB1.out.all Try.underlying25 rfl cred_size (c.v A n) rfl ?_)
      refine (rin_calls c A n x.gi (U.drewN n1) HP1.out.cl).mono ?_
      rintro e w1 ⟨rfl, hb⟩
      have HW1 : Hid (Pg w w1 c A n x p g) := Lib.hid (Pg.on ⟨HP1.out, HAB1.out⟩ hb)
      clear hb HP1 HAB1 HCB1 HP HAB HCB HBT ya2 yl3 yc0
      cases ht0 : inB c x.gi
      case true =>
        obtain ⟨mg, hmg⟩ : ∃ m, maskedN x.ac x.ac.gr = m := ⟨_, rfl⟩
        obtain ⟨rg, hrg⟩ : ∃ m, hasB mg q = m := ⟨_, rfl⟩
        have hmg8 : mg < 256 := by rw [← hmg]; exact maskedN_lt hgr
        have HKM := Lib.hid (masked_calls x.ac p.p x.ac.gr w1 hgr hms)
        rw [hmg] at HKM
        have HG4 : Hid (grantR c x dir q = if rg then true else if x.ac.gs.any (oneR c x.ac q) then true else !(true || x.ac.gs.any fun p => inB c p.id) && hasB x.ac.ot q) := Lib.hid (by rw [HG3.out, ht0, hmg, hrg, Bool.true_and])
        have yg1 : w1.cell? ⟨g, 1, none⟩ = some (.int .u8 (x.ac.gr : Nat)) := HW1.out.ab.cell 1
        have HRG := Lib.hid hrg
        clear hmg hrg HG3 ht0
        go_wp2_with (refine wpList_load_part rfl 28 (.tmp 9) rfl g 0 rfl (x.ac.c p.p).toList _ HW1.out.ab.all0 Try.underlying28 rfl acl_size (x.ac.v p.p) rfl ?_)
        refine HKM.out.mono ?_
        rintro e w2 ⟨rfl, hb⟩
        have HW2 := Lib.hid (HW1.out.on hb)
        have HH := Lib.hid (has_calls mg q w2 hmg8 hq)
        rw [HRG.out] at HH
        clear hb HW1 HKM yg1
        go_wp2_with (fail)
        refine HH.out.mono ?_
        rintro e w3 ⟨rfl, rfl⟩
        cases rg
        case true =>
          have HV : Hid (grantR c x dir q = true) := Lib.hid (by rw [HG4.out]; rfl)
          go_wp2_with (fail)
          go_ret
          exact ⟨by rw [HV.out]; rfl, HW2.out.pb.be⟩
        case false =>
          have HG5 : Hid (grantR c x dir q = if x.ac.gs.any (oneR c x.ac q) then true else !(true || x.ac.gs.any fun p => inB c p.id) && hasB x.ac.ot q) := Lib.hid HG4.out
          have yl4 : w3.cell? ⟨g, 4, none⟩ = some (.slice p.p.B ng p.p.d) := by rw [← HNG.out]; exact HW2.out.ab.cell 4
          clear HG4 HH HRG
          go_wp2_with (fail)
          go_loopw [11, 12] (fun inn i wr => ∃ k : Nat, i = .int .i64 k ∧ k ≤ ng ∧ (∃ t, inn = .bool t ∧ Hid ((true || (x.ac.gs.take k).any fun p => inB c p.id) = t)) ∧ Hid (∀ (j : Nat) r, j < k → x.ac.gs[j]? = some r → oneR c x.ac q r = false) ∧ Hid (Pg w wr c A n x p g)) (fun _ i _ => ng - (intOf i).toNat)
          case atStart => exact ⟨0, rfl, by omega, ⟨true, rfl, Lib.hid rfl⟩, Lib.hid (fun j q hj => absurd hj (Nat.not_lt_zero _)), HW2⟩
          case round =>
            clear yl4 HW2
            obtain ⟨k, rfl, hk, ⟨t, rfl, hT⟩, hR, hPW⟩ := hrel
            have yl4 : wr.cell? ⟨g, 4, none⟩ = some (.slice p.p.B ng p.p.d) := by rw [← HNG.out]; exact hPW.out.ab.cell 4
            by_cases hkn : k < ng
            · obtain ⟨b1, o1, hA, hlt, hcell⟩ := hPW.out.pb.al.ac.gs.nm (by rw [HNG.out]; omega)
              rw [hA] at yl4
              obtain ⟨r, hp⟩ : ∃ r, x.ac.gs[k]? = some r := ⟨_, List.getElem?_eq_getElem (by rw [HNG.out]; exact hkn)⟩
              obtain ⟨e1, e2⟩ := hcell k r hp
              have HPP := Lib.hid hp
              have HA := Lib.hid hA
              have hr8 : r.pm < 256 := HG8.out r (List.mem_of_getElem? hp)
              clear hp hcell hA
              obtain ⟨ri, hri⟩ : ∃ m, r.id = m := ⟨_, rfl⟩
              obtain ⟨rp, hrp⟩ : ∃ m, r.pm = m := ⟨_, rfl⟩
              obtain ⟨mp, hmp⟩ : ∃ m, maskedN x.ac rp = m := ⟨_, rfl⟩
              obtain ⟨rb, hrb⟩ : ∃ m, hasB mp q = m := ⟨_, rfl⟩
              obtain ⟨ti, hti⟩ : ∃ m, inB c ri = m := ⟨_, rfl⟩
              have HPR := Lib.hid hrp
              have HON : Hid (oneR c x.ac q r = (ti && rb)) := Lib.hid (by unfold oneR; rw [hri, hrp, hmp, hrb, hti])
              have HT2 : Hid ((true || (x.ac.gs.take (k + 1)).any fun p => inB c p.id) = (t || ti)) := Lib.hid (by
                rw [List.take_add_one, HPP.out, List.any_append, ← Bool.or_assoc, hT.out]
                show (t || (inB c r.id || false)) = (t || ti)
                rw [hri, hti, Bool.or_false])
              have HKM : Hid (∀ u, Calls Try.prog 45 #[x.ac.v p.p, .int .u8 (rp : Nat)] u fun e w' => e = .returned (.int .u8 (mp : Nat)) ∧ Below u.heap.size u w') := Lib.hid (fun u => hmp ▸ masked_calls x.ac p.p rp u (by omega) hms)
              have HKH : Hid (∀ u, Calls Try.prog 43 #[.int .u8 (mp : Nat), .int .u8 (q : Nat)] u fun e w' => e = .returned (.bool rb) ∧ Below u.heap.size u w') := Lib.hid (fun u => hrb ▸ has_below mp q u (by rw [← hmp]; exact maskedN_lt (by omega)) hq)
              have HKI : Hid (∀ u, CLies u c A → Calls Try.prog 12 #[c.v A n, .int .u16 (ri : Nat)] u fun e w' => e = .returned (.bool ti) ∧ Below u.heap.size u w') := Lib.hid (fun u hl => hti ▸ rin_calls c A n ri u hl)
              have HCBW : Hid (Cb wr b c A n) := Lib.hid (by rw [← HBX.out]; exact hPW.out.pb.cb)
              have HY3 : Hid (∀ u, On wr u → u.cell? ⟨g, 4, none⟩ = some (.slice (some ⟨b1, o1, none⟩) ng p.p.d)) := Lib.hid (fun u hb => by rw [← HA.out, ← HNG.out]; exact (hPW.out.ab.on hb).cell 4)
              have HE1 : Hid (∀ u, On wr u → u.cell? ⟨b1, o1 + k * 2, none⟩ = some (.int .u16 (ri : Nat))) := Lib.hid (fun u hb => (Below.cell hb hlt).trans (hri ▸ e1))
              have he2 : wr.cell? ⟨b1, o1 + k * 2 + 1, none⟩ = some (.int .u8 (rp : Nat)) := hrp ▸ e2
              have HE0 := Lib.hid he2
              have HLT := Lib.hid hlt
              clear e1 e2 he2 hrp hmp hrb hri hti hlt hT
              go_upto_region 17 with (fail)
              refine wp_region4 [.val (c.v A n), .val (.pointer (some ⟨g, 4, none⟩)), .val (.slice (some ⟨b1, o1, none⟩) ng p.p.d), .val (.int .i64 (k : Nat)), .val (.pointer (some ⟨b1, o1 + k * 2, none⟩)), .val (.pointer (some ⟨b1, o1 + k * 2, none⟩)), .val (.int .u16 (ri : Nat)), .val (.bool ti)] (by kernel_rfl) (by kernel_rfl) (by kernel_rfl) ?steps ?rest
              case steps =>
                refine ⟨?s0, ?s1, ?s2, ?s3, ?s4, ?s5, ?s6, ?s7, trivial⟩
                case s0 =>
                  exact st4_val _ rfl (.inl rfl) fun a u hb hA hd => run_loadC rfl b c A n (hA.eval 4 rfl) (HCBW.out.on hb)
                case s1 =>
                  exact st4_val _ rfl (.inl rfl) fun a u hb hA hd => by
                    have q0 := ev_of (show a.eval (.tmp 9) = .pointer (some ⟨g, 0, none⟩) from hA.eval 9 rfl)
                    unfold execOp
                    simp [go_sem, q0]
                case s2 =>
                  exact st4_val _ rfl (.inl rfl) fun a u hb hA hd => by
                    have q0 := ev_of (show a.eval (.tmp 84) = .pointer (some ⟨g, 4, none⟩) from hd 1 84 rfl rfl _ rfl)
                    have y0 := HY3.out u hb
                    unfold execOp
                    simp [go_sem, q0, y0]
                case s3 =>
                  exact st4_val _ rfl (.inl rfl) fun a u hb hA hd => by
                    have q0 := ev_of (show a.eval (.tmp 12) = .int .i64 (k : Nat) from hA.eval 12 rfl)
                    unfold execOp
                    simp [go_sem, q0]
                case s4 =>
                  exact st4_val _ rfl (.inl rfl) fun a u hb hA hd => run_iaddrN rfl b1 o1 ng p.p.d k (hd 2 85 rfl rfl _ rfl) (hd 3 86 rfl rfl _ rfl) hkn
                case s5 =>
                  exact st4_val _ rfl (.inl rfl) fun a u hb hA hd => by
                    have q0 := ev_of (show a.eval (.tmp 87) = .pointer (some ⟨b1, o1 + k * 2, none⟩) from hd 4 87 rfl rfl _ rfl)
                    unfold execOp
                    simp [go_sem, q0]
                case s6 =>
                  exact st4_val _ rfl (.inl rfl) fun a u hb hA hd => by
                    have q0 := ev_of (show a.eval (.tmp 88) = .pointer (some ⟨b1, o1 + k * 2, none⟩) from hd 5 88 rfl rfl _ rfl)
                    have y0 := HE1.out u hb
                    unfold execOp
                    simp [go_sem, q0, y0]
                case s7 =>
                  refine st4_call _ rfl (.inl rfl) 12 fun a u hb hA hd => ?_
                  have q0 := ev_of (show a.eval (.tmp 83) = c.v A n from hd 0 83 rfl rfl _ rfl)
                  have q1 := ev_of (show a.eval (.tmp 89) = .int .u16 (ri : Nat) from hd 6 89 rfl rfl _ rfl)
                  refine ⟨#[c.v A n, .int .u16 (ri : Nat)], ?_, (HKI.out u (hPW.out.pb.cl.below hb)).mono ?_⟩
                  · unfold execOp
                    simp [go_sem, q0, q1]
                  · rintro e w' ⟨rfl, hb'⟩
                    exact ⟨_, rfl, rfl, hb'⟩
              case rest =>
                intro vs w' hb hR4
                have ee : vs 7 = .bool ti := hR4 7 (by decide)
                simp only [putsFrom, Act.put, List.setIfInBounds_toArray, List.set_cons_succ, List.set_cons_zero, ee]
                generalize vs 0 = z0
                generalize vs 1 = z1
                generalize vs 2 = z2
                generalize vs 3 = z3
                generalize vs 4 = z4
                generalize vs 5 = z5
                generalize vs 6 = z6
                have HW4 := Lib.hid (hPW.out.on hb)
                have hbW : Below wr.heap.size wr w' := hb
                clear hR4 hb HY3 HE1
                cases ti
                case false =>
                  have HR2 := Lib.hid (none_more hR.out HPP.out (by rw [HON.out]; rfl))
                  go_wp2_with (fail)
                  go_roundw
                  case rel => exact ⟨k + 1, by go_num, by omega, ⟨t, rfl, Lib.hid (by rw [HT2.out, Bool.or_false])⟩, HR2, HW4⟩
                  case measure => simp [intOf]; omega
                case true =>
                  have e2 : w'.cell? ⟨b1, o1 + k * 2 + 1, none⟩ = some (.int .u8 (rp : Nat)) := (Below.cell hbW HLT.out).trans HE0.out
                  have hlt : b1 < w'.heap.size := Nat.lt_of_lt_of_le HLT.out hbW.size
                  have HPW := HW4
                  have HPRR : Hid (rp = rp) := Lib.hid rfl
                  have HAB2 := Lib.hid (HPW.out.ab)
                  have HY3 : Hid (∀ u, On w' u → u.cell? ⟨g, 4, none⟩ = some (.slice (some ⟨b1, o1, none⟩) ng p.p.d)) := Lib.hid (fun u hb => by rw [← HA.out, ← HNG.out]; exact (HPW.out.ab.on hb).cell 4)
                  have HE2 : Hid (∀ u, On w' u → u.cell? ⟨b1, o1 + k * 2 + 1, none⟩ = some (.int .u8 (rp : Nat))) := Lib.hid (fun u hb => (Below.cell hb hlt).trans (e2))
                  clear e2 hlt hbW
                  go_upto_region 19 with (fail)
                  refine wp_region4 [.val (x.ac.v p.p), .val (.pointer (some ⟨g, 4, none⟩)), .val (.slice (some ⟨b1, o1, none⟩) ng p.p.d), .val (.int .i64 (k : Nat)), .val (.pointer (some ⟨b1, o1 + k * 2, none⟩)), .val (.pointer (some ⟨b1, o1 + k * 2 + 1, none⟩)), .val (.int .u8 (rp : Nat)), .val (.int .u8 (mp : Nat)), .val (.int .u8 (q : Nat)), .val (.bool rb)] (by kernel_rfl) (by kernel_rfl) (by kernel_rfl) ?steps ?rest
                  case steps =>
                    refine ⟨?s0, ?s1, ?s2, ?s3, ?s4, ?s5, ?s6, ?s7, ?s8, ?s9, trivial⟩
                    case s0 =>
                      exact st4_val _ rfl (.inl rfl) fun a u hb hA hd => run_loadL rfl g x.ac p.p (hA.eval 9 rfl) (HAB2.out.on hb)
                    case s1 =>
                      exact st4_val _ rfl (.inl rfl) fun a u hb hA hd => by
                        have q0 := ev_of (show a.eval (.tmp 9) = .pointer (some ⟨g, 0, none⟩) from hA.eval 9 rfl)
                        unfold execOp
                        simp [go_sem, q0]
                    case s2 =>
                      exact st4_val _ rfl (.inl rfl) fun a u hb hA hd => by
                        have q0 := ev_of (show a.eval (.tmp 92) = .pointer (some ⟨g, 4, none⟩) from hd 1 92 rfl rfl _ rfl)
                        have y0 := HY3.out u hb
                        unfold execOp
                        simp [go_sem, q0, y0]
                    case s3 =>
                      exact st4_val _ rfl (.inl rfl) fun a u hb hA hd => by
                        have q0 := ev_of (show a.eval (.tmp 12) = .int .i64 (k : Nat) from hA.eval 12 rfl)
                        unfold execOp
                        simp [go_sem, q0]
                    case s4 =>
                      exact st4_val _ rfl (.inl rfl) fun a u hb hA hd => run_iaddrN rfl b1 o1 ng p.p.d k (hd 2 93 rfl rfl _ rfl) (hd 3 94 rfl rfl _ rfl) hkn
                    case s5 =>
                      exact st4_val _ rfl (.inl rfl) fun a u hb hA hd => by
                        have q0 := ev_of (show a.eval (.tmp 95) = .pointer (some ⟨b1, o1 + k * 2, none⟩) from hd 4 95 rfl rfl _ rfl)
                        unfold execOp
                        simp [go_sem, q0]
                    case s6 =>
                      exact st4_val _ rfl (.inl rfl) fun a u hb hA hd => by
                        have q0 := ev_of (show a.eval (.tmp 96) = .pointer (some ⟨b1, o1 + k * 2 + 1, none⟩) from hd 5 96 rfl rfl _ rfl)
                        have y0 := HE2.out u hb
                        unfold execOp
                        simp [go_sem, q0, y0]
                    case s7 =>
                      refine st4_call _ rfl (.inl rfl) 45 fun a u hb hA hd => ?_
                      have q0 := ev_of (show a.eval (.tmp 91) = x.ac.v p.p from hd 0 91 rfl rfl _ rfl)
                      have q1 := ev_of (show a.eval (.tmp 97) = .int .u8 (rp : Nat) from hd 6 97 rfl rfl _ rfl)
                      refine ⟨#[x.ac.v p.p, .int .u8 (rp : Nat)], ?_, (HKM.out u).mono ?_⟩
                      · unfold execOp
                        simp [go_sem, q0, q1]
                      · rintro e w' ⟨rfl, hb'⟩
                        exact ⟨_, rfl, rfl, hb'⟩
                    case s8 =>
                      exact st4_val _ rfl (.inl rfl) fun a u hb hA hd => by
                        have q0 := ev_of (show a.eval (.tmp 3) = .int .u8 (q : Nat) from hA.eval 3 rfl)
                        unfold execOp
                        simp [go_sem, q0]
                    case s9 =>
                      refine st4_call _ rfl (.inl rfl) 43 fun a u hb hA hd => ?_
                      have q0 := ev_of (show a.eval (.tmp 98) = .int .u8 (mp : Nat) from hd 7 98 rfl rfl _ rfl)
                      have q1 := ev_of (show a.eval (.tmp 99) = .int .u8 (q : Nat) from hd 8 99 rfl rfl _ rfl)
                      refine ⟨#[.int .u8 (mp : Nat), .int .u8 (q : Nat)], ?_, (HKH.out u).mono ?_⟩
                      · unfold execOp
                        simp [go_sem, q0, q1]
                      · rintro e w' ⟨rfl, hb'⟩
                        exact ⟨_, rfl, rfl, hb'⟩
                  case rest =>
                    intro vs u hb hR5
                    have ee : vs 9 = .bool rb := hR5 9 (by decide)
                    simp only [putsFrom, Act.put, List.setIfInBounds_toArray, List.set_cons_succ, List.set_cons_zero, ee]
                    generalize vs 0 = z0
                    generalize vs 1 = z1
                    generalize vs 2 = z2
                    generalize vs 3 = z3
                    generalize vs 4 = z4
                    generalize vs 5 = z5
                    generalize vs 6 = z6
                    generalize vs 7 = z7
                    generalize vs 8 = z8
                    have HW5 := Lib.hid (HPW.out.on hb)
                    clear hR5 hb
                    cases rb
                    case true =>
                      have HV : Hid (grantR c x dir q = true) := Lib.hid (by rw [HG5.out, any_at HPP.out (by rw [HON.out]; rfl)]; rfl)
                      go_wp2_with (fail)
                      go_ret
                      exact ⟨by rw [HV.out]; rfl, HW5.out.pb.be⟩
                    case false =>
                      have HR2 := Lib.hid (none_more hR.out HPP.out (by rw [HON.out]; rfl))
                      go_wp2_with (fail)
                      go_roundw
                      case rel => exact ⟨k + 1, by go_num, by omega, ⟨true, rfl, Lib.hid (by rw [HT2.out, Bool.or_true])⟩, HR2, HW5⟩
                      case measure => simp [intOf]; omega
            · obtain rfl : k = ng := by omega
              have HV : Hid (grantR c x dir q = (!t && hasB x.ac.ot q)) := Lib.hid (by
                have h := hT.out
                rw [List.take_of_length_le (by rw [HNG.out]; exact Nat.le_refl _)] at h
                rw [HG5.out, any_none HNG.out hR.out, h]
                rfl)
              have yl2 : wr.cell? ⟨g, 2, none⟩ = some (.int .u8 (x.ac.ot : Nat)) := hPW.out.ab.cell 2
              have HH := Lib.hid (has_calls x.ac.ot q wr hot hq)
              clear hR hT HG5
              cases t
              case true =>
                go_wp2_with (fail)
                go_ret
                exact ⟨by rw [HV.out]; rfl, hPW.out.pb.be⟩
              case false =>
                go_wp2_with (fail)
                refine HH.out.mono ?_
                rintro e w' ⟨rfl, rfl⟩
                go_wp2_with (fail)
                go_ret
                exact ⟨by rw [HV.out]; rfl, hPW.out.pb.be⟩
      case false =>
        have HG5 : Hid (grantR c x dir q = if x.ac.gs.any (oneR c x.ac q) then true else !(false || x.ac.gs.any fun p => inB c p.id) && hasB x.ac.ot q) := Lib.hid (by rw [HG3.out, ht0, Bool.false_and]; rfl)
        have yl4 : w1.cell? ⟨g, 4, none⟩ = some (.slice p.p.B ng p.p.d) := by rw [← HNG.out]; exact HW1.out.ab.cell 4
        clear HG3 ht0
        go_wp2_with (fail)
        go_loopw [11, 12] (fun inn i wr => ∃ k : Nat, i = .int .i64 k ∧ k ≤ ng ∧ (∃ t, inn = .bool t ∧ Hid ((false || (x.ac.gs.take k).any fun p => inB c p.id) = t)) ∧ Hid (∀ (j : Nat) r, j < k → x.ac.gs[j]? = some r → oneR c x.ac q r = false) ∧ Hid (Pg w wr c A n x p g)) (fun _ i _ => ng - (intOf i).toNat)
        case atStart => exact ⟨0, rfl, by omega, ⟨false, rfl, Lib.hid rfl⟩, Lib.hid (fun j q hj => absurd hj (Nat.not_lt_zero _)), HW1⟩
        case round =>
          clear yl4 HW1
          obtain ⟨k, rfl, hk, ⟨t, rfl, hT⟩, hR, hPW⟩ := hrel
          have yl4 : wr.cell? ⟨g, 4, none⟩ = some (.slice p.p.B ng p.p.d) := by rw [← HNG.out]; exact hPW.out.ab.cell 4
          by_cases hkn : k < ng
          · obtain ⟨b1, o1, hA, hlt, hcell⟩ := hPW.out.pb.al.ac.gs.nm (by rw [HNG.out]; omega)
            rw [hA] at yl4
            obtain ⟨r, hp⟩ : ∃ r, x.ac.gs[k]? = some r := ⟨_, List.getElem?_eq_getElem (by rw [HNG.out]; exact hkn)⟩
            obtain ⟨e1, e2⟩ := hcell k r hp
            have HPP := Lib.hid hp
            have HA := Lib.hid hA
            have hr8 : r.pm < 256 := HG8.out r (List.mem_of_getElem? hp)
            clear hp hcell hA
            obtain ⟨ri, hri⟩ : ∃ m, r.id = m := ⟨_, rfl⟩
            obtain ⟨rp, hrp⟩ : ∃ m, r.pm = m := ⟨_, rfl⟩
            obtain ⟨mp, hmp⟩ : ∃ m, maskedN x.ac rp = m := ⟨_, rfl⟩
            obtain ⟨rb, hrb⟩ : ∃ m, hasB mp q = m := ⟨_, rfl⟩
            obtain ⟨ti, hti⟩ : ∃ m, inB c ri = m := ⟨_, rfl⟩
            have HPR := Lib.hid hrp
            have HON : Hid (oneR c x.ac q r = (ti && rb)) := Lib.hid (by unfold oneR; rw [hri, hrp, hmp, hrb, hti])
            have HT2 : Hid ((false || (x.ac.gs.take (k + 1)).any fun p => inB c p.id) = (t || ti)) := Lib.hid (by
              rw [List.take_add_one, HPP.out, List.any_append, ← Bool.or_assoc, hT.out]
              show (t || (inB c r.id || false)) = (t || ti)
              rw [hri, hti, Bool.or_false])
            have HKM : Hid (∀ u, Calls Try.prog 45 #[x.ac.v p.p, .int .u8 (rp : Nat)] u fun e w' => e = .returned (.int .u8 (mp : Nat)) ∧ Below u.heap.size u w') := Lib.hid (fun u => hmp ▸ masked_calls x.ac p.p rp u (by omega) hms)
            have HKH : Hid (∀ u, Calls Try.prog 43 #[.int .u8 (mp : Nat), .int .u8 (q : Nat)] u fun e w' => e = .returned (.bool rb) ∧ Below u.heap.size u w') := Lib.hid (fun u => hrb ▸ has_below mp q u (by rw [← hmp]; exact maskedN_lt (by omega)) hq)
            have HKI : Hid (∀ u, CLies u c A → Calls Try.prog 12 #[c.v A n, .int .u16 (ri : Nat)] u fun e w' => e = .returned (.bool ti) ∧ Below u.heap.size u w') := Lib.hid (fun u hl => hti ▸ rin_calls c A n ri u hl)
            have HCBW : Hid (Cb wr b c A n) := Lib.hid (by rw [← HBX.out]; exact hPW.out.pb.cb)
            have HY3 : Hid (∀ u, On wr u → u.cell? ⟨g, 4, none⟩ = some (.slice (some ⟨b1, o1, none⟩) ng p.p.d)) := Lib.hid (fun u hb => by rw [← HA.out, ← HNG.out]; exact (hPW.out.ab.on hb).cell 4)
            have HE1 : Hid (∀ u, On wr u → u.cell? ⟨b1, o1 + k * 2, none⟩ = some (.int .u16 (ri : Nat))) := Lib.hid (fun u hb => (Below.cell hb hlt).trans (hri ▸ e1))
            have he2 : wr.cell? ⟨b1, o1 + k * 2 + 1, none⟩ = some (.int .u8 (rp : Nat)) := hrp ▸ e2
            have HE0 := Lib.hid he2
            have HLT := Lib.hid hlt
            clear e1 e2 he2 hrp hmp hrb hri hti hlt hT
            go_upto_region 17 with (fail)
            refine wp_region4 [.val (c.v A n), .val (.pointer (some ⟨g, 4, none⟩)), .val (.slice (some ⟨b1, o1, none⟩) ng p.p.d), .val (.int .i64 (k : Nat)), .val (.pointer (some ⟨b1, o1 + k * 2, none⟩)), .val (.pointer (some ⟨b1, o1 + k * 2, none⟩)), .val (.int .u16 (ri : Nat)), .val (.bool ti)] (by kernel_rfl) (by kernel_rfl) (by kernel_rfl) ?steps ?rest
            case steps =>
              refine ⟨?s0, ?s1, ?s2, ?s3, ?s4, ?s5, ?s6, ?s7, trivial⟩
              case s0 =>
                exact st4_val _ rfl (.inl rfl) fun a u hb hA hd => run_loadC rfl b c A n (hA.eval 4 rfl) (HCBW.out.on hb)
              case s1 =>
                exact st4_val _ rfl (.inl rfl) fun a u hb hA hd => by
                  have q0 := ev_of (show a.eval (.tmp 9) = .pointer (some ⟨g, 0, none⟩) from hA.eval 9 rfl)
                  unfold execOp
                  simp [go_sem, q0]
              case s2 =>
                exact st4_val _ rfl (.inl rfl) fun a u hb hA hd => by
                  have q0 := ev_of (show a.eval (.tmp 84) = .pointer (some ⟨g, 4, none⟩) from hd 1 84 rfl rfl _ rfl)
                  have y0 := HY3.out u hb
                  unfold execOp
                  simp [go_sem, q0, y0]
              case s3 =>
                exact st4_val _ rfl (.inl rfl) fun a u hb hA hd => by
                  have q0 := ev_of (show a.eval (.tmp 12) = .int .i64 (k : Nat) from hA.eval 12 rfl)
                  unfold execOp
                  simp [go_sem, q0]
              case s4 =>
                exact st4_val _ rfl (.inl rfl) fun a u hb hA hd => run_iaddrN rfl b1 o1 ng p.p.d k (hd 2 85 rfl rfl _ rfl) (hd 3 86 rfl rfl _ rfl) hkn
              case s5 =>
                exact st4_val _ rfl (.inl rfl) fun a u hb hA hd => by
                  have q0 := ev_of (show a.eval (.tmp 87) = .pointer (some ⟨b1, o1 + k * 2, none⟩) from hd 4 87 rfl rfl _ rfl)
                  unfold execOp
                  simp [go_sem, q0]
              case s6 =>
                exact st4_val _ rfl (.inl rfl) fun a u hb hA hd => by
                  have q0 := ev_of (show a.eval (.tmp 88) = .pointer (some ⟨b1, o1 + k * 2, none⟩) from hd 5 88 rfl rfl _ rfl)
                  have y0 := HE1.out u hb
                  unfold execOp
                  simp [go_sem, q0, y0]
              case s7 =>
                refine st4_call _ rfl (.inl rfl) 12 fun a u hb hA hd => ?_
                have q0 := ev_of (show a.eval (.tmp 83) = c.v A n from hd 0 83 rfl rfl _ rfl)
                have q1 := ev_of (show a.eval (.tmp 89) = .int .u16 (ri : Nat) from hd 6 89 rfl rfl _ rfl)
                refine ⟨#[c.v A n, .int .u16 (ri : Nat)], ?_, (HKI.out u (hPW.out.pb.cl.below hb)).mono ?_⟩
                · unfold execOp
                  simp [go_sem, q0, q1]
                · rintro e w' ⟨rfl, hb'⟩
                  exact ⟨_, rfl, rfl, hb'⟩
            case rest =>
              intro vs w' hb hR4
              have ee : vs 7 = .bool ti := hR4 7 (by decide)
              simp only [putsFrom, Act.put, List.setIfInBounds_toArray, List.set_cons_succ, List.set_cons_zero, ee]
              generalize vs 0 = z0
              generalize vs 1 = z1
              generalize vs 2 = z2
              generalize vs 3 = z3
              generalize vs 4 = z4
              generalize vs 5 = z5
              generalize vs 6 = z6
              have HW4 := Lib.hid (hPW.out.on hb)
              have hbW : Below wr.heap.size wr w' := hb
              clear hR4 hb HY3 HE1
              cases ti
              case false =>
                have HR2 := Lib.hid (none_more hR.out HPP.out (by rw [HON.out]; rfl))
                go_wp2_with (fail)
                go_roundw
                case rel => exact ⟨k + 1, by go_num, by omega, ⟨t, rfl, Lib.hid (by rw [HT2.out, Bool.or_false])⟩, HR2, HW4⟩
                case measure => simp [intOf]; omega
              case true =>
                have e2 : w'.cell? ⟨b1, o1 + k * 2 + 1, none⟩ = some (.int .u8 (rp : Nat)) := (Below.cell hbW HLT.out).trans HE0.out
                have hlt : b1 < w'.heap.size := Nat.lt_of_lt_of_le HLT.out hbW.size
                have HPW := HW4
                have HPRR : Hid (rp = rp) := Lib.hid rfl
                have HAB2 := Lib.hid (HPW.out.ab)
                have HY3 : Hid (∀ u, On w' u → u.cell? ⟨g, 4, none⟩ = some (.slice (some ⟨b1, o1, none⟩) ng p.p.d)) := Lib.hid (fun u hb => by rw [← HA.out, ← HNG.out]; exact (HPW.out.ab.on hb).cell 4)
                have HE2 : Hid (∀ u, On w' u → u.cell? ⟨b1, o1 + k * 2 + 1, none⟩ = some (.int .u8 (rp : Nat))) := Lib.hid (fun u hb => (Below.cell hb hlt).trans (e2))
                clear e2 hlt hbW
                go_upto_region 19 with (fail)
                refine wp_region4 [.val (x.ac.v p.p), .val (.pointer (some ⟨g, 4, none⟩)), .val (.slice (some ⟨b1, o1, none⟩) ng p.p.d), .val (.int .i64 (k : Nat)), .val (.pointer (some ⟨b1, o1 + k * 2, none⟩)), .val (.pointer (some ⟨b1, o1 + k * 2 + 1, none⟩)), .val (.int .u8 (rp : Nat)), .val (.int .u8 (mp : Nat)), .val (.int .u8 (q : Nat)), .val (.bool rb)] (by kernel_rfl) (by kernel_rfl) (by kernel_rfl) ?steps ?rest
                case steps =>
                  refine ⟨?s0, ?s1, ?s2, ?s3, ?s4, ?s5, ?s6, ?s7, ?s8, ?s9, trivial⟩
                  case s0 =>
                    exact st4_val _ rfl (.inl rfl) fun a u hb hA hd => run_loadL rfl g x.ac p.p (hA.eval 9 rfl) (HAB2.out.on hb)
                  case s1 =>
                    exact st4_val _ rfl (.inl rfl) fun a u hb hA hd => by
                      have q0 := ev_of (show a.eval (.tmp 9) = .pointer (some ⟨g, 0, none⟩) from hA.eval 9 rfl)
                      unfold execOp
                      simp [go_sem, q0]
                  case s2 =>
                    exact st4_val _ rfl (.inl rfl) fun a u hb hA hd => by
                      have q0 := ev_of (show a.eval (.tmp 92) = .pointer (some ⟨g, 4, none⟩) from hd 1 92 rfl rfl _ rfl)
                      have y0 := HY3.out u hb
                      unfold execOp
                      simp [go_sem, q0, y0]
                  case s3 =>
                    exact st4_val _ rfl (.inl rfl) fun a u hb hA hd => by
                      have q0 := ev_of (show a.eval (.tmp 12) = .int .i64 (k : Nat) from hA.eval 12 rfl)
                      unfold execOp
                      simp [go_sem, q0]
                  case s4 =>
                    exact st4_val _ rfl (.inl rfl) fun a u hb hA hd => run_iaddrN rfl b1 o1 ng p.p.d k (hd 2 93 rfl rfl _ rfl) (hd 3 94 rfl rfl _ rfl) hkn
                  case s5 =>
                    exact st4_val _ rfl (.inl rfl) fun a u hb hA hd => by
                      have q0 := ev_of (show a.eval (.tmp 95) = .pointer (some ⟨b1, o1 + k * 2, none⟩) from hd 4 95 rfl rfl _ rfl)
                      unfold execOp
                      simp [go_sem, q0]
                  case s6 =>
                    exact st4_val _ rfl (.inl rfl) fun a u hb hA hd => by
                      have q0 := ev_of (show a.eval (.tmp 96) = .pointer (some ⟨b1, o1 + k * 2 + 1, none⟩) from hd 5 96 rfl rfl _ rfl)
                      have y0 := HE2.out u hb
                      unfold execOp
                      simp [go_sem, q0, y0]
                  case s7 =>
                    refine st4_call _ rfl (.inl rfl) 45 fun a u hb hA hd => ?_
                    have q0 := ev_of (show a.eval (.tmp 91) = x.ac.v p.p from hd 0 91 rfl rfl _ rfl)
                    have q1 := ev_of (show a.eval (.tmp 97) = .int .u8 (rp : Nat) from hd 6 97 rfl rfl _ rfl)
                    refine ⟨#[x.ac.v p.p, .int .u8 (rp : Nat)], ?_, (HKM.out u).mono ?_⟩
                    · unfold execOp
                      simp [go_sem, q0, q1]
                    · rintro e w' ⟨rfl, hb'⟩
                      exact ⟨_, rfl, rfl, hb'⟩
                  case s8 =>
                    exact st4_val _ rfl (.inl rfl) fun a u hb hA hd => by
                      have q0 := ev_of (show a.eval (.tmp 3) = .int .u8 (q : Nat) from hA.eval 3 rfl)
                      unfold execOp
                      simp [go_sem, q0]
                  case s9 =>
                    refine st4_call _ rfl (.inl rfl) 43 fun a u hb hA hd => ?_
                    have q0 := ev_of (show a.eval (.tmp 98) = .int .u8 (mp : Nat) from hd 7 98 rfl rfl _ rfl)
                    have q1 := ev_of (show a.eval (.tmp 99) = .int .u8 (q : Nat) from hd 8 99 rfl rfl _ rfl)
                    refine ⟨#[.int .u8 (mp : Nat), .int .u8 (q : Nat)], ?_, (HKH.out u).mono ?_⟩
                    · unfold execOp
                      simp [go_sem, q0, q1]
                    · rintro e w' ⟨rfl, hb'⟩
                      exact ⟨_, rfl, rfl, hb'⟩
                case rest =>
                  intro vs u hb hR5
                  have ee : vs 9 = .bool rb := hR5 9 (by decide)
                  simp only [putsFrom, Act.put, List.setIfInBounds_toArray, List.set_cons_succ, List.set_cons_zero, ee]
                  generalize vs 0 = z0
                  generalize vs 1 = z1
                  generalize vs 2 = z2
                  generalize vs 3 = z3
                  generalize vs 4 = z4
                  generalize vs 5 = z5
                  generalize vs 6 = z6
                  generalize vs 7 = z7
                  generalize vs 8 = z8
                  have HW5 := Lib.hid (HPW.out.on hb)
                  clear hR5 hb
                  cases rb
                  case true =>
                    have HV : Hid (grantR c x dir q = true) := Lib.hid (by rw [HG5.out, any_at HPP.out (by rw [HON.out]; rfl)]; rfl)
                    go_wp2_with (fail)
                    go_ret
                    exact ⟨by rw [HV.out]; rfl, HW5.out.pb.be⟩
                  case false =>
                    have HR2 := Lib.hid (none_more hR.out HPP.out (by rw [HON.out]; rfl))
                    go_wp2_with (fail)
                    go_roundw
                    case rel => exact ⟨k + 1, by go_num, by omega, ⟨true, rfl, Lib.hid (by rw [HT2.out, Bool.or_true])⟩, HR2, HW5⟩
                    case measure => simp [intOf]; omega
          · obtain rfl : k = ng := by omega
            have HV : Hid (grantR c x dir q = (!t && hasB x.ac.ot q)) := Lib.hid (by
              have h := hT.out
              rw [List.take_of_length_le (by rw [HNG.out]; exact Nat.le_refl _)] at h
              rw [HG5.out, any_none HNG.out hR.out, h]
              rfl)
            have yl2 : wr.cell? ⟨g, 2, none⟩ = some (.int .u8 (x.ac.ot : Nat)) := hPW.out.ab.cell 2
            have HH := Lib.hid (has_calls x.ac.ot q wr hot hq)
            clear hR hT HG5
            cases t
            case true =>
              go_wp2_with (fail)
              go_ret
              exact ⟨by rw [HV.out]; rfl, hPW.out.pb.be⟩
            case false =>
              go_wp2_with (fail)
              refine HH.out.mono ?_
              rintro e w' ⟨rfl, rfl⟩
              go_wp2_with (fail)
              go_ret
              exact ⟨by rw [HV.out]; rfl, hPW.out.pb.be⟩
end Go.Proofs.Ytejhodjbgablaaa
