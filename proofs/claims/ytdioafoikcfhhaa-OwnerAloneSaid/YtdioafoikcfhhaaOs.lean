/- Who may take a name out of a directory. -/
import Derived.Test.YtdioafoikcfhhaaOr
set_option linter.unusedSimpArgs false
set_option linter.unusedVariables false
set_option linter.unusedSimpArgs false
set_option linter.unusedVariables false
namespace Go.Proofs.Ytdioafoikcfhhaa
open Go.RowKit
/-- A process, a directory, what has a name in it: three blocks of the call's own, their rows. -/
structure Pc (w V : World) (c : Cr) (A : Option Addr) (n : Nat) (d : At) (pd : ALie) (x : At) (p : ALie) : Prop where
  cb : Cb V w.heap.size c A n
  bd : Bt V (w.heap.size + 1) d pd
  bt : Bt V (w.heap.size + 2) x p
  cl : CLies V c A
  dl : ALies V d pd
  al : ALies V x p
  be : Below w.heap.size w V
theorem Pc.on {w V V' : World} {c : Cr} {A : Option Addr} {n : Nat} {d x : At} {pd p : ALie} (h : Pc w V c A n d pd x p) (hb : Below V.heap.size V V') : Pc w V' c A n d pd x p :=
  ⟨h.cb.on hb, h.bd.on hb, h.bt.on hb, h.cl.below hb, h.dl.below hb, h.al.below hb, h.be.trans (hb.mono h.be.size)⟩
theorem Pc.start {w : World} {c : Cr} {A : Option Addr} {n : Nat} {d x : At} {pd p : ALie} (hc : CLies w c A) (hd : ALies w d pd) (h : ALies w x p) : Pc w (((w.alloc (.cells (c.c A n) 25)).alloc (.cells (d.c pd) 31)).alloc (.cells (x.c p) 31)) c A n d pd x p := by
  have h1 := Pb.start (n := n) hc hd
  obtain ⟨V, hV⟩ : ∃ V, V = (w.alloc (.cells (c.c A n) 25)).alloc (.cells (d.c pd) 31) := ⟨_, rfl⟩
  have hsz : V.heap.size = w.heap.size + 2 := by rw [hV, World.size_alloc, World.size_alloc]
  rw [← hV] at h1 ⊢
  have b : Below V.heap.size V (V.alloc (.cells (x.c p) 31)) := (Below.refl _ _).alloc (Nat.le_refl _) _
  have h2 := h1.on b
  refine ⟨h2.cb, h2.bt, ?_, h2.cl, h2.al, h.below h2.be, h2.be⟩
  have := Bt.new V x p
  rwa [hsz] at this
theorem and1' (m : Nat) (hm : m < 256) : bits .and .u8 (m : Int) 1 = ((m % 2 : Nat) : Int) := and1 m hm
set_option maxRecDepth 100000 in
set_option maxHeartbeats 8000000 in
theorem removes_calls (c : Cr) (A : Option Addr) (n : Nat) (d : At) (pd : ALie) (x : At) (p : ALie) (w : World) (hc : CLies w c A) (hd : ALies w d pd) (h : ALies w x p) (hsd : ASm d) (hsx : ASm x) :
    Calls Try.prog 25 #[c.v A n, d.v pd, x.v p] w fun e w' => e = .returned (.bool (remB c d x)) ∧ Below w.heap.size w w' := by
  obtain ⟨V, hV⟩ : ∃ V, V = ((w.alloc (.cells (c.c A n) 25)).alloc (.cells (d.c pd) 31)).alloc (.cells (x.c p) 31) := ⟨_, rfl⟩
  have S0 : Hid (Pc w V c A n d pd x p) := Lib.hid (by rw [hV]; exact Pc.start hc hd h)
  have HSD := Lib.hid hsd
  have HSX := Lib.hid hsx
  have HKX := Lib.hid trivial
  obtain ⟨r, hr⟩ : ∃ r, remB c d x = r := ⟨_, rfl⟩
  rw [hr]
  have HR := Lib.hid hr
  clear hc h hd hsd hsx hr
  go_enter Try.func25, Try.ntmps25
  go_upto_region 1 with (fail)
  rw [← hV]
  clear hV
  go_wp2_with (first
  | (refine wpList_load_part rfl 25 (.tmp 3) rfl w.heap.size 0 rfl (Cr.c c A n).toList _ (S0.out.cb).all Try.underlying25 rfl cred_size (Cr.v c A n) rfl ?_)
  | (refine wpList_load_part rfl 31 (.tmp 4) rfl (w.heap.size + 1) 0 rfl (At.c d pd).toList _ (S0.out.bd).bt0 Try.underlying31 rfl attr_size (At.v d pd) rfl ?_)
  | (refine wpList_load_part rfl 31 (.tmp 5) rfl (w.heap.size + 2) 0 rfl (At.c x p).toList _ (S0.out.bt).bt0 Try.underlying31 rfl attr_size (At.v x p) rfl ?_))
  refine (ovalid_calls c A n d pd V S0.out.cl S0.out.dl HSD.out).mono ?_
  rintro e w1 ⟨rfl, hb⟩
  have S1 := Lib.hid (S0.out.on hb)
  clear hb S0
  cases hv1 : validB c d
  case false =>
    have HN : Hid (r = false) := Lib.hid (by rw [← HR.out]; unfold remB; rw [hv1]; simp)
    clear hv1 HR
    go_wp2_with (fail)
    go_ret
    exact ⟨by rw [HN.out]; rfl, S1.out.be⟩
  case true =>
  go_wp2_with (first
  | (refine wpList_load_part rfl 25 (.tmp 3) rfl w.heap.size 0 rfl (Cr.c c A n).toList _ (S1.out.cb).all Try.underlying25 rfl cred_size (Cr.v c A n) rfl ?_)
  | (refine wpList_load_part rfl 31 (.tmp 4) rfl (w.heap.size + 1) 0 rfl (At.c d pd).toList _ (S1.out.bd).bt0 Try.underlying31 rfl attr_size (At.v d pd) rfl ?_)
  | (refine wpList_load_part rfl 31 (.tmp 5) rfl (w.heap.size + 2) 0 rfl (At.c x p).toList _ (S1.out.bt).bt0 Try.underlying31 rfl attr_size (At.v x p) rfl ?_))
  refine (ovalid_calls c A n x p w1 S1.out.cl S1.out.al HSX.out).mono ?_
  rintro e w2 ⟨rfl, hb⟩
  have S2 := Lib.hid (S1.out.on hb)
  clear hb S1
  cases hv2 : validB c x
  case false =>
    have HN : Hid (r = false) := Lib.hid (by rw [← HR.out]; unfold remB; rw [hv2]; simp)
    clear hv1 hv2 HR
    go_wp2_with (fail)
    go_ret
    exact ⟨by rw [HN.out]; rfl, S2.out.be⟩
  case true =>
  have HMD := Lib.hid (valid_parts (c := c) (x := d) (by assumption)).2
  have HR2 : Hid (r = (ownsB c x || (ownsB c d || decide (d.bi &&& 1 = 0)))) := Lib.hid (by rw [← HR.out]; unfold remB; rw [hv1, hv2]; rfl)
  have HOX : Hid (ownB c x = ownsB c x) := Lib.hid (by unfold ownB; simp [hv1, hv2])
  have HOD : Hid (ownB c d = ownsB c d) := Lib.hid (by unfold ownB; simp [hv1, hv2])
  clear hv1 hv2 HR
  go_wp2_with (first
  | (refine wpList_load_part rfl 25 (.tmp 3) rfl w.heap.size 0 rfl (Cr.c c A n).toList _ (S2.out.cb).all Try.underlying25 rfl cred_size (Cr.v c A n) rfl ?_)
  | (refine wpList_load_part rfl 31 (.tmp 4) rfl (w.heap.size + 1) 0 rfl (At.c d pd).toList _ (S2.out.bd).bt0 Try.underlying31 rfl attr_size (At.v d pd) rfl ?_)
  | (refine wpList_load_part rfl 31 (.tmp 5) rfl (w.heap.size + 2) 0 rfl (At.c x p).toList _ (S2.out.bt).bt0 Try.underlying31 rfl attr_size (At.v x p) rfl ?_))
  refine (owns_calls c A n x p w2).mono ?_
  rintro e w3 ⟨rfl, hb⟩
  have S3 := Lib.hid (S2.out.on hb)
  clear hb S2
  clear HOX
  cases ho1 : ownsB c x
  case true =>
    have HN : Hid (r = true) := Lib.hid (by rw [HR2.out, ho1]; rfl)
    clear ho1 HR2
    go_wp2_with (fail)
    go_ret
    exact ⟨by rw [HN.out]; rfl, S3.out.be⟩
  case false =>
  go_wp2_with (first
  | (refine wpList_load_part rfl 25 (.tmp 3) rfl w.heap.size 0 rfl (Cr.c c A n).toList _ (S3.out.cb).all Try.underlying25 rfl cred_size (Cr.v c A n) rfl ?_)
  | (refine wpList_load_part rfl 31 (.tmp 4) rfl (w.heap.size + 1) 0 rfl (At.c d pd).toList _ (S3.out.bd).bt0 Try.underlying31 rfl attr_size (At.v d pd) rfl ?_)
  | (refine wpList_load_part rfl 31 (.tmp 5) rfl (w.heap.size + 2) 0 rfl (At.c x p).toList _ (S3.out.bt).bt0 Try.underlying31 rfl attr_size (At.v x p) rfl ?_))
  refine (owns_calls c A n d pd w3).mono ?_
  rintro e w4 ⟨rfl, hb⟩
  have S4 := Lib.hid (S3.out.on hb)
  clear hb S3
  clear HOD
  cases ho2 : ownsB c d
  case true =>
    have HN : Hid (r = true) := Lib.hid (by rw [HR2.out, ho1, ho2]; rfl)
    clear ho1 ho2 HR2
    go_wp2_with (fail)
    go_ret
    exact ⟨by rw [HN.out]; rfl, S4.out.be⟩
  case false =>
  have h8 := may8 HMD.out
  have y0 := S4.out.bd.c0
  have HR3 : Hid (r = decide (d.bi % 2 = 0)) := Lib.hid (by rw [HR2.out, ho1, ho2]; show decide (d.bi &&& 1 = 0) = _; rw [Nat.and_one_is_mod])
  clear ho1 ho2 HR2
  have e1 := and1 d.bi (by omega)
  obtain ⟨b, hb⟩ : ∃ b, d.bi = b := ⟨_, rfl⟩
  rw [hb] at y0 HR3 e1 h8
  clear hb
  by_cases hp : b % 2 = 0
  case pos =>
    have HN : Hid (r = true) := Lib.hid (by rw [HR3.out, decide_eq_true hp])
    have e2 : bits .and .u8 (b : Int) 1 = 0 := by rw [e1, hp]; rfl
    have e3 : (b : Int) % 2 = 0 := by omega
    clear e1 HR3 hp
    go_wp2_with (fail)
    go_ret
    exact ⟨by rw [HN.out]; rfl, S4.out.be⟩
  case neg =>
    have h1 : b % 2 = 1 := by omega
    have HN : Hid (r = false) := Lib.hid (by rw [HR3.out, decide_eq_false hp])
    have e2 : bits .and .u8 (b : Int) 1 = 1 := by rw [e1, h1]; rfl
    have e3 : (b : Int) % 2 = 1 := by omega
    clear e1 HR3 hp h1
    go_wp2_with (fail)
    go_ret
    exact ⟨by rw [HN.out]; rfl, S4.out.be⟩
set_option maxRecDepth 100000 in
set_option maxHeartbeats 8000000 in
theorem rremoves_calls (c : Cr) (A : Option Addr) (n : Nat) (d : At) (pd : ALie) (x : At) (p : ALie) (w : World) (hc : CLies w c A) (hd : ALies w d pd) (h : ALies w x p) (hsd : ASm d) (hsx : ASm x) (hkd : Ks d) (hkx : Ks x) :
    Calls Try.prog 26 #[c.v A n, d.v pd, x.v p] w fun e w' => e = .returned (.bool (remB c d x)) ∧ Below w.heap.size w w' := by
  obtain ⟨V, hV⟩ : ∃ V, V = ((w.alloc (.cells (c.c A n) 25)).alloc (.cells (d.c pd) 31)).alloc (.cells (x.c p) 31) := ⟨_, rfl⟩
  have S0 : Hid (Pc w V c A n d pd x p) := Lib.hid (by rw [hV]; exact Pc.start hc hd h)
  have HSD := Lib.hid hsd
  have HSX := Lib.hid hsx
  have HKD := Lib.hid hkd
  have HKX := Lib.hid hkx
  obtain ⟨r, hr⟩ : ∃ r, remB c d x = r := ⟨_, rfl⟩
  rw [hr]
  have HR := Lib.hid hr
  clear hc h hd hsd hsx hr hkd hkx
  go_enter Try.func26, Try.ntmps26
  go_upto_region 1 with (fail)
  rw [← hV]
  clear hV
  go_wp2_with (first
  | (refine wpList_load_part rfl 25 (.tmp 3) rfl w.heap.size 0 rfl (Cr.c c A n).toList _ (S0.out.cb).all Try.underlying25 rfl cred_size (Cr.v c A n) rfl ?_)
  | (refine wpList_load_part rfl 31 (.tmp 4) rfl (w.heap.size + 1) 0 rfl (At.c d pd).toList _ (S0.out.bd).bt0 Try.underlying31 rfl attr_size (At.v d pd) rfl ?_)
  | (refine wpList_load_part rfl 31 (.tmp 5) rfl (w.heap.size + 2) 0 rfl (At.c x p).toList _ (S0.out.bt).bt0 Try.underlying31 rfl attr_size (At.v x p) rfl ?_))
  refine (rmayo_calls c A n x p V S0.out.cl S0.out.al HSX.out HKX.out).mono ?_
  rintro e w1 ⟨rfl, hb⟩
  have S1 := Lib.hid (S0.out.on hb)
  clear hb S0
  cases hv1 : validB c x
  case false =>
    have HN : Hid (r = false) := Lib.hid (by rw [← HR.out]; unfold remB; rw [hv1]; simp)
    clear hv1 HR
    go_wp2_with (fail)
    go_ret
    exact ⟨by rw [HN.out]; rfl, S1.out.be⟩
  case true =>
  go_wp2_with (first
  | (refine wpList_load_part rfl 25 (.tmp 3) rfl w.heap.size 0 rfl (Cr.c c A n).toList _ (S1.out.cb).all Try.underlying25 rfl cred_size (Cr.v c A n) rfl ?_)
  | (refine wpList_load_part rfl 31 (.tmp 4) rfl (w.heap.size + 1) 0 rfl (At.c d pd).toList _ (S1.out.bd).bt0 Try.underlying31 rfl attr_size (At.v d pd) rfl ?_)
  | (refine wpList_load_part rfl 31 (.tmp 5) rfl (w.heap.size + 2) 0 rfl (At.c x p).toList _ (S1.out.bt).bt0 Try.underlying31 rfl attr_size (At.v x p) rfl ?_))
  refine (rmayo_calls c A n d pd w1 S1.out.cl S1.out.dl HSD.out HKD.out).mono ?_
  rintro e w2 ⟨rfl, hb⟩
  have S2 := Lib.hid (S1.out.on hb)
  clear hb S1
  cases hv2 : validB c d
  case false =>
    have HN : Hid (r = false) := Lib.hid (by rw [← HR.out]; unfold remB; rw [hv2]; simp)
    clear hv1 hv2 HR
    go_wp2_with (fail)
    go_ret
    exact ⟨by rw [HN.out]; rfl, S2.out.be⟩
  case true =>
  have HMD := Lib.hid (valid_parts (c := c) (x := d) (by assumption)).2
  have HR2 : Hid (r = (ownsB c x || (ownsB c d || decide (d.bi &&& 1 = 0)))) := Lib.hid (by rw [← HR.out]; unfold remB; rw [hv1, hv2]; rfl)
  have HOX : Hid (ownB c x = ownsB c x) := Lib.hid (by unfold ownB; simp [hv1, hv2])
  have HOD : Hid (ownB c d = ownsB c d) := Lib.hid (by unfold ownB; simp [hv1, hv2])
  clear hv1 hv2 HR
  go_wp2_with (first
  | (refine wpList_load_part rfl 25 (.tmp 3) rfl w.heap.size 0 rfl (Cr.c c A n).toList _ (S2.out.cb).all Try.underlying25 rfl cred_size (Cr.v c A n) rfl ?_)
  | (refine wpList_load_part rfl 31 (.tmp 4) rfl (w.heap.size + 1) 0 rfl (At.c d pd).toList _ (S2.out.bd).bt0 Try.underlying31 rfl attr_size (At.v d pd) rfl ?_)
  | (refine wpList_load_part rfl 31 (.tmp 5) rfl (w.heap.size + 2) 0 rfl (At.c x p).toList _ (S2.out.bt).bt0 Try.underlying31 rfl attr_size (At.v x p) rfl ?_))
  refine (rownso_calls c A n x p w2 S2.out.cl S2.out.al HSX.out HKX.out).mono ?_
  rintro e w3 ⟨rfl, hb⟩
  have S3 := Lib.hid (S2.out.on hb)
  clear hb S2
  rw [HOX.out]
  cases ho1 : ownsB c x
  case true =>
    have HN : Hid (r = true) := Lib.hid (by rw [HR2.out, ho1]; rfl)
    clear ho1 HR2
    go_wp2_with (fail)
    go_ret
    exact ⟨by rw [HN.out]; rfl, S3.out.be⟩
  case false =>
  go_wp2_with (first
  | (refine wpList_load_part rfl 25 (.tmp 3) rfl w.heap.size 0 rfl (Cr.c c A n).toList _ (S3.out.cb).all Try.underlying25 rfl cred_size (Cr.v c A n) rfl ?_)
  | (refine wpList_load_part rfl 31 (.tmp 4) rfl (w.heap.size + 1) 0 rfl (At.c d pd).toList _ (S3.out.bd).bt0 Try.underlying31 rfl attr_size (At.v d pd) rfl ?_)
  | (refine wpList_load_part rfl 31 (.tmp 5) rfl (w.heap.size + 2) 0 rfl (At.c x p).toList _ (S3.out.bt).bt0 Try.underlying31 rfl attr_size (At.v x p) rfl ?_))
  refine (rownso_calls c A n d pd w3 S3.out.cl S3.out.dl HSD.out HKD.out).mono ?_
  rintro e w4 ⟨rfl, hb⟩
  have S4 := Lib.hid (S3.out.on hb)
  clear hb S3
  rw [HOD.out]
  cases ho2 : ownsB c d
  case true =>
    have HN : Hid (r = true) := Lib.hid (by rw [HR2.out, ho1, ho2]; rfl)
    clear ho1 ho2 HR2
    go_wp2_with (fail)
    go_ret
    exact ⟨by rw [HN.out]; rfl, S4.out.be⟩
  case false =>
  have h8 := may8 HMD.out
  have y0 := S4.out.bd.c0
  have HR3 : Hid (r = decide (d.bi % 2 = 0)) := Lib.hid (by rw [HR2.out, ho1, ho2]; show decide (d.bi &&& 1 = 0) = _; rw [Nat.and_one_is_mod])
  clear ho1 ho2 HR2
  have e1 := and1 d.bi (by omega)
  obtain ⟨b, hb⟩ : ∃ b, d.bi = b := ⟨_, rfl⟩
  rw [hb] at y0 HR3 e1 h8
  clear hb
  by_cases hp : b % 2 = 0
  case pos =>
    have HN : Hid (r = true) := Lib.hid (by rw [HR3.out, decide_eq_true hp])
    have e2 : bits .and .u8 (b : Int) 1 = 0 := by rw [e1, hp]; rfl
    have e3 : (b : Int) % 2 = 0 := by omega
    clear e1 HR3 hp
    go_wp2_with (fail)
    go_ret
    exact ⟨by rw [HN.out]; rfl, S4.out.be⟩
  case neg =>
    have h1 : b % 2 = 1 := by omega
    have HN : Hid (r = false) := Lib.hid (by rw [HR3.out, decide_eq_false hp])
    have e2 : bits .and .u8 (b : Int) 1 = 1 := by rw [e1, h1]; rfl
    have e3 : (b : Int) % 2 = 1 := by omega
    clear e1 HR3 hp h1
    go_wp2_with (fail)
    go_ret
    exact ⟨by rw [HN.out]; rfl, S4.out.be⟩
end Go.Proofs.Ytdioafoikcfhhaa
