/- What the first rule that applies has for the process. -/
import Derived.Test.YtejhodjbgablaaaGi
set_option linter.unusedSimpArgs false
set_option linter.unusedVariables false
namespace Go.Proofs.Ytejhodjbgablaaa
open Go.RowKit
theorem cel_one {W : World} {g : Nat} {l : List Nat} (h : W.heap[g]? = some (.cells (bv l).toArray 5 (0, 0))) : Cel W (some ⟨g, 0, none⟩) (bv l) := cel_row h (by simp)
/-- Two blocks of the call's own: a process, attributes; their rows. -/
structure Pb (w V : World) (c : Cr) (A : Option Addr) (n : Nat) (x : At) (p : ALie) : Prop where
  cb : Cb V w.heap.size c A n
  bt : Bt V (w.heap.size + 1) x p
  cl : CLies V c A
  al : ALies V x p
  be : Below w.heap.size w V
theorem Pb.start {w : World} {c : Cr} {A : Option Addr} {n : Nat} {x : At} {p : ALie} (hc : CLies w c A) (h : ALies w x p) : Pb w ((w.alloc (.cells (c.c A n) 25)).alloc (.cells (x.c p) 31)) c A n x p := by
  have b1 : Below w.heap.size w (w.alloc (.cells (c.c A n) 25)) := (Below.refl _ _).alloc (Nat.le_refl _) _
  have b2 : Below (w.alloc (.cells (c.c A n) 25)).heap.size (w.alloc (.cells (c.c A n) 25)) ((w.alloc (.cells (c.c A n) 25)).alloc (.cells (x.c p) 31)) := (Below.refl _ _).alloc (Nat.le_refl _) _
  have b3 := b1.trans (b2.mono b1.size)
  exact ⟨(Cb.new w c A n).on b2, by have := Bt.new (w.alloc (.cells (c.c A n) 25)) x p; rwa [World.size_alloc] at this, hc.below b3, h.below b3, b3⟩
theorem Pb.on {w V V' : World} {c : Cr} {A : Option Addr} {n : Nat} {x : At} {p : ALie} (h : Pb w V c A n x p) (hb : Below V.heap.size V V') : Pb w V' c A n x p :=
  ⟨h.cb.on hb, h.bt.on hb, h.cl.below hb, h.al.below hb, h.be.trans (hb.mono h.be.size)⟩
theorem tog3 (t : Nat) (W : World) (ht : t < 8) : Calls Try.prog 29 #[.slice (some ⟨W.heap.size, 0, none⟩) 3 3] (W.alloc (.cells #[.int .u8 (t : Nat), .int .u8 4, .int .u8 2] 5)) fun e w' => e = .returned (.int .u8 (orL [t, 4, 2] : Nat)) ∧ w' = W.alloc (.cells #[.int .u8 (t : Nat), .int .u8 4, .int .u8 2] 5) :=
  together_calls (some ⟨W.heap.size, 0, none⟩) [t, 4, 2] 3 _ (cel_one (heap_alloc_new W _)) (by simp) (fun p hp => by
    simp only [List.mem_cons, List.not_mem_nil, or_false] at hp
    omega)
theorem below_a2 {w W : World} {o o' : Obj} (h : Below w.heap.size w W) : Below w.heap.size w ((W.alloc o).alloc o') := (h.alloc h.size o).alloc (by rw [World.size_alloc]; have := h.size; omega) o'
set_option maxRecDepth 100000 in
set_option maxHeartbeats 8000000 in
theorem offers_calls (c : Cr) (A : Option Addr) (n : Nat) (x : At) (p : ALie) (dir : Bool) (w : World) (hc : CLies w c A) (h : ALies w x p) (hs : ASm x) (hw : Low x) :
    Calls Try.prog 24 #[c.v A n, x.v p, .bool dir] w fun e w' => ∃ B d, e = .returned (.slice B (offL c x dir).length d) ∧ Hid (Cel w' B (bv (offL c x dir))) ∧ Below w.heap.size w w' := by
  obtain ⟨V, hV⟩ : ∃ V, V = (w.alloc (.cells (c.c A n) 25)).alloc (.cells (x.c p) 31) := ⟨_, rfl⟩
  have S0 : Hid (Pb w V c A n x p) := Lib.hid (by rw [hV]; exact Pb.start hc h)
  have HS := Lib.hid hs
  have HW := Lib.hid hw
  clear hc h hs hw
  go_enter Try.func24, Try.ntmps24
  go_upto_region 1 with (fail)
  rw [← hV]
  clear hV
  obtain ⟨b, hbx⟩ : ∃ b, w.heap.size = b := ⟨_, rfl⟩
  rw [hbx]
  have HBX := Lib.hid hbx
  have hcb := S0.out.cb
  have hbt := S0.out.bt
  rw [hbx] at hcb hbt
  have HCB := Lib.hid hcb
  have HBT := Lib.hid hbt
  clear hbx hcb hbt
  go_wp2_with (refine wpList_load_part rfl 28 (.tmp 11) rfl (b + 1) 3 rfl (x.ac.c p.p).toList _ HBT.out.ac Try.underlying28 rfl acl_size (x.ac.v p.p) rfl ?_)
  refine (maskof_calls x.ac p.p V).mono ?_
  rintro e w1 ⟨rfl, hb⟩
  have S1 := Lib.hid (S0.out.on hb)
  have HCB1 := Lib.hid (HCB.out.on hb)
  have HBT1 := Lib.hid (HBT.out.on hb)
  have y6 := HBT1.out.c6
  have c1 : Calls Try.prog 38 #[.slice p.p.A x.ac.us.length p.p.c, .int .u8 (maskN x.ac : Nat), .func (.func 39) #[] #[.pointer (some ⟨b, 0, none⟩)]] w1 fun e w' => ∃ B d, e = .returned (.slice B (usL c x).length d) ∧ Hid (Cel w' B (bv (usL c x))) ∧ Below w1.heap.size w1 w' :=
    perms_calls 39 #[.pointer (some ⟨b, 0, none⟩)] (fun i => decide (i = c.ui)) p.p.A x.ac.us p.p.c (maskN x.ac) w1 S1.out.al.ac.us HS.out.ac.us (by have := HW.out.mn; omega) HW.out.us (fun args W => run_enter Try.func39 (by kernel_rfl) rfl args W)
      (fun W i hW => (off1_calls b c A n i W (HCB1.out.on hW)).mono (by
        rintro e w' ⟨rfl, rfl⟩
        exact ⟨rfl, Below.refl _ _⟩))
  have HC1 := Lib.hid c1
  clear hb S0 HCB HBT c1
  go_wp2_with (fail)
  refine HC1.out.mono ?_
  rintro e w2 ⟨B1, d1, rfl, hR1, hb⟩
  have S2 := Lib.hid (S1.out.on hb)
  have HCB2 := Lib.hid (HCB1.out.on hb)
  have HBT2 := Lib.hid (HBT1.out.on hb)
  clear hb S1 HCB1 HBT1 y6 HC1
  go_wp2_with (refine wpList_load_part rfl 31 (.tmp 4) rfl (b + 1) 0 rfl (x.c p).toList _ HBT2.out.bt0 Try.underlying31 rfl attr_size (x.v p) rfl ?_)
  refine (ent_calls x p w2 S2.out.al HS.out).mono ?_
  rintro e w3 ⟨B2, d2, rfl, hR2, hb⟩
  have S3 := Lib.hid (S2.out.on hb)
  have HCB3 := Lib.hid (HCB2.out.on hb)
  have HBT3 := Lib.hid (HBT2.out.on hb)
  have HR1 := Lib.hid (hR1.out.below hb)
  have c2 : Calls Try.prog 38 #[.slice B2 (entL x).length d2, .int .u8 (maskN x.ac : Nat), .func (.func 41) #[] #[.pointer (some ⟨b, 0, none⟩)]] w3 fun e w' => ∃ B d, e = .returned (.slice B (grL c x).length d) ∧ Hid (Cel w' B (bv (grL c x))) ∧ Below w3.heap.size w3 w' :=
    perms_calls 41 #[.pointer (some ⟨b, 0, none⟩)] (fun i => inB c i) B2 (entL x) d2 (maskN x.ac) w3 hR2.out HW.out.el (by have := HW.out.mn; omega) HW.out.gs (fun args W => run_enter Try.func41 (by kernel_rfl) rfl args W)
      (fun W i hW => off2_calls b c A n i W (HCB3.out.on hW) (S3.out.cl.below hW))
  have HC2 := Lib.hid c2
  clear hb S2 HCB2 HBT2 hR1 hR2 c2
  go_wp2_with (fail)
  refine HC2.out.mono ?_
  rintro e w4 ⟨B3, d3, rfl, hR3, hb⟩
  have S4 := Lib.hid (S3.out.on hb)
  have HCB4 := Lib.hid (HCB3.out.on hb)
  have HBT4 := Lib.hid (HBT3.out.on hb)
  have HR1' := Lib.hid (HR1.out.below hb)
  have HOF : Hid (offL c x dir = if c.ui = 0 then [orL [topN x dir, 4, 2]] else if c.ui = x.ui then [x.ac.ow] else if 0 < (usL c x).length then usL c x else if 0 < (grL c x).length then grL c x else [x.ac.ot]) := Lib.hid rfl
  have yc0 := HCB4.out.c0
  have ya1 := HBT4.out.c1
  have ya3 : w4.cell? ⟨b + 1, 3, none⟩ = some (.int .u8 (x.ac.ow : Nat)) := HBT4.out.cell 3
  have ya5 : w4.cell? ⟨b + 1, 5, none⟩ = some (.int .u8 (x.ac.ot : Nat)) := HBT4.out.cell 5
  obtain ⟨lu, hlu⟩ : ∃ l, usL c x = l := ⟨_, rfl⟩
  obtain ⟨lg, hlg⟩ : ∃ l, grL c x = l := ⟨_, rfl⟩
  rw [hlu] at HOF HR1' ⊢
  rw [hlg] at HOF hR3 ⊢
  obtain ⟨nu, hnu⟩ : ∃ m, lu.length = m := ⟨_, rfl⟩
  obtain ⟨ng, hng⟩ : ∃ m, lg.length = m := ⟨_, rfl⟩
  have HNU := Lib.hid hnu
  have HNG := Lib.hid hng
  rw [hnu] at HOF ⊢
  rw [hng] at HOF ⊢
  clear hb S3 HCB3 HBT3 HR1 HC2 hlu hlg hnu hng
  obtain ⟨u, hu⟩ : ∃ u, c.ui = u := ⟨_, rfl⟩
  obtain ⟨v, hv⟩ : ∃ v, x.ui = v := ⟨_, rfl⟩
  rw [hu] at HOF yc0
  rw [hv] at HOF ya1
  have HU := Lib.hid hu
  clear hu hv
  by_cases h0 : u = 0
  case pos =>
    have k0 : ((u : Int) == 0) = true := by rw [h0]; rfl
    have HV : Hid (offL c x dir = [orL [topN x dir, 4, 2]]) := Lib.hid (by rw [HOF.out, if_pos h0])
    clear h0 HOF
    cases dir
    case true =>
      have e1 : topN x true = 1 := rfl
      rw [e1] at HV
      clear e1
      go_wp2_with (fail)
      refine (tog3 1 w4 (by decide)).mono ?_
      rintro e w' ⟨rfl, rfl⟩
      have HCA := Lib.hid (cel_one (l := [orL [1, 4, 2]]) (heap_alloc_new (w4.alloc (.cells #[.int .u8 1, .int .u8 4, .int .u8 2] 5)) _))
      have HBE := Lib.hid (below_a2 (o := .cells #[.int .u8 1, .int .u8 4, .int .u8 2] 5) (o' := .cells (bv [orL [1, 4, 2]]).toArray 5) S4.out.be)
      go_wp2_with (fail)
      go_ret
      exact ⟨some ⟨w4.heap.size + 1, 0, none⟩, 1, by rw [HV.out]; rfl, Lib.hid (by rw [HV.out]; have := HCA.out; rwa [World.size_alloc] at this), HBE.out⟩
    case false =>
      go_wp2_with (refine wpList_load_part rfl 31 (.tmp 4) rfl (b + 1) 0 rfl (x.c p).toList _ HBT4.out.bt0 Try.underlying31 rfl attr_size (x.v p) rfl ?_)
      refine (runs_calls x p w4 S4.out.al HS.out HW.out).mono ?_
      rintro e w5 ⟨rfl, hb⟩
      have S5 := Lib.hid (S4.out.on hb)
      have yc0 := (HCB4.out.on hb).c0
      rw [HU.out] at yc0
      cases hr : runsN x
      case true =>
        have e1 : topN x false = 1 := by unfold topN; rw [hr]; rfl
        rw [e1] at HV
        clear e1 hr hb
        go_wp2_with (fail)
        refine (tog3 1 w5 (by decide)).mono ?_
        rintro e w' ⟨rfl, rfl⟩
        have HCA := Lib.hid (cel_one (l := [orL [1, 4, 2]]) (heap_alloc_new (w5.alloc (.cells #[.int .u8 1, .int .u8 4, .int .u8 2] 5)) _))
        have HBE := Lib.hid (below_a2 (o := .cells #[.int .u8 1, .int .u8 4, .int .u8 2] 5) (o' := .cells (bv [orL [1, 4, 2]]).toArray 5) S5.out.be)
        go_wp2_with (fail)
        go_ret
        exact ⟨some ⟨w5.heap.size + 1, 0, none⟩, 1, by rw [HV.out]; rfl, Lib.hid (by rw [HV.out]; have := HCA.out; rwa [World.size_alloc] at this), HBE.out⟩
      case false =>
        have e1 : topN x false = 0 := by unfold topN; rw [hr]; rfl
        rw [e1] at HV
        clear e1 hr hb
        go_wp2_with (fail)
        refine (tog3 0 w5 (by decide)).mono ?_
        rintro e w' ⟨rfl, rfl⟩
        have HCA := Lib.hid (cel_one (l := [orL [0, 4, 2]]) (heap_alloc_new (w5.alloc (.cells #[.int .u8 0, .int .u8 4, .int .u8 2] 5)) _))
        have HBE := Lib.hid (below_a2 (o := .cells #[.int .u8 0, .int .u8 4, .int .u8 2] 5) (o' := .cells (bv [orL [0, 4, 2]]).toArray 5) S5.out.be)
        go_wp2_with (fail)
        go_ret
        exact ⟨some ⟨w5.heap.size + 1, 0, none⟩, 1, by rw [HV.out]; rfl, Lib.hid (by rw [HV.out]; have := HCA.out; rwa [World.size_alloc] at this), HBE.out⟩
  case neg =>
  have k0 : ((u : Int) == 0) = false := by rw [beq_eq_false_iff_ne]; omega
  have HOF1 := Lib.hid (HOF.out.trans (if_neg h0))
  clear h0 HOF
  by_cases h1 : u = v
  case pos =>
    have k1 : ((u : Int) == (v : Int)) = true := by rw [h1]; exact beq_self_eq_true _
    have HV : Hid (offL c x dir = [x.ac.ow]) := Lib.hid (by rw [HOF1.out, if_pos h1])
    have HBA := Lib.hid (S4.out.be.trans (((Below.refl _ w4).alloc (Nat.le_refl _) (.cells (bv [x.ac.ow]).toArray 5)).mono S4.out.be.size))
    have HCA := Lib.hid (cel_one (heap_alloc_new w4 (.cells (bv [x.ac.ow]).toArray 5)))
    clear h1 HOF1
    go_wp2_with (fail)
    go_ret
    exact ⟨some ⟨w4.heap.size, 0, none⟩, 1, by rw [HV.out]; rfl, Lib.hid (by rw [HV.out]; exact HCA.out), HBA.out⟩
  case neg =>
  have k1 : ((u : Int) == (v : Int)) = false := by rw [beq_eq_false_iff_ne]; omega
  have HOF2 := Lib.hid (HOF1.out.trans (if_neg h1))
  clear h1 HOF1
  by_cases h2 : 0 < nu
  case pos =>
    have k2 : decide ((0 : Int) < (nu : Int)) = true := by rw [decide_eq_true_eq]; omega
    have HV : Hid (offL c x dir = lu) := Lib.hid (by rw [HOF2.out, if_pos h2])
    go_wp2_with (fail)
    go_ret
    exact ⟨B1, d1, by rw [HV.out, HNU.out]; rfl, Lib.hid (by rw [HV.out]; exact HR1'.out), S4.out.be⟩
  case neg =>
  have k2 : decide ((0 : Int) < (nu : Int)) = false := by rw [decide_eq_false_iff_not]; omega
  have k2' : decide (0 < nu) = false := decide_eq_false h2
  have HOF3 := Lib.hid (HOF2.out.trans (if_neg h2))
  clear h2 HOF2
  by_cases h3 : 0 < ng
  case pos =>
    have k3 : decide ((0 : Int) < (ng : Int)) = true := by rw [decide_eq_true_eq]; omega
    have HV : Hid (offL c x dir = lg) := Lib.hid (by rw [HOF3.out, if_pos h3])
    go_wp2_with (fail)
    go_ret
    exact ⟨B3, d3, by rw [HV.out, HNG.out]; rfl, Lib.hid (by rw [HV.out]; exact hR3.out), S4.out.be⟩
  case neg =>
  have k3 : decide ((0 : Int) < (ng : Int)) = false := by rw [decide_eq_false_iff_not]; omega
  have k3' : decide (0 < ng) = false := decide_eq_false h3
  have HV : Hid (offL c x dir = [x.ac.ot]) := Lib.hid (by rw [HOF3.out, if_neg h3])
  have HBA := Lib.hid (S4.out.be.trans (((Below.refl _ w4).alloc (Nat.le_refl _) (.cells (bv [x.ac.ot]).toArray 5)).mono S4.out.be.size))
  have HCA := Lib.hid (cel_one (heap_alloc_new w4 (.cells (bv [x.ac.ot]).toArray 5)))
  go_wp2_with (fail)
  go_ret
  exact ⟨some ⟨w4.heap.size, 0, none⟩, 1, by rw [HV.out]; rfl, Lib.hid (by rw [HV.out]; exact HCA.out), HBA.out⟩
end Go.Proofs.Ytejhodjbgablaaa
