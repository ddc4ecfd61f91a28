/- Granted or not: the smallest parts. -/
import Derived.Test.YtgdiiicaljidpaaNuT
set_option linter.unusedSimpArgs false
set_option linter.unusedVariables false
set_option linter.unusedSimpArgs false
set_option linter.unusedVariables false
namespace Go.Proofs.Ytgdiiicaljidpaa
open Go.RowKit
theorem and8 (a b : Nat) (ha : a < 256) (hb : b < 256) : bits .and .u8 (a : Int) (b : Int) = ((a &&& b : Nat) : Int) := (bits_nat .u8 8 (by decide) wraps_u8 a b ha hb).1
theorem or8 (a b : Nat) (ha : a < 256) (hb : b < 256) : bits .or .u8 (a : Int) (b : Int) = ((a ||| b : Nat) : Int) := (bits_nat .u8 8 (by decide) wraps_u8 a b ha hb).2
theorem has8 (p q : Nat) (hp : p < 256) (hq : q < 256) : (bits .and .u8 (p : Int) (q : Int) == (q : Int)) = hasB p q := by
  rw [and8 p q hp hq]
  unfold hasB
  rw [Bool.eq_iff_iff, beq_iff_eq, decide_eq_true_eq]
  exact Int.ofNat_inj
/-- Rows of groups, rows of perms. -/
def hv (l : List Nat) : List Value := l.map fun (x : Nat) => Value.int .u16 (x : Int)
def bv (l : List Nat) : List Value := l.map fun (x : Nat) => Value.int .u8 (x : Int)
theorem hv_length (l : List Nat) : (hv l).length = l.length := by simp [hv]
theorem bv_length (l : List Nat) : (bv l).length = l.length := by simp [bv]
theorem hv_get {l : List Nat} {k x : Nat} (h : l[k]? = some x) : (hv l)[k]? = some (.int .u16 (x : Int)) := by simp [hv, h]
theorem bv_get {l : List Nat} {k x : Nat} (h : l[k]? = some x) : (bv l)[k]? = some (.int .u8 (x : Int)) := by simp [bv, h]
theorem hv_one (l : List Nat) : ∀ u ∈ hv l, u.oneCell' = true := by
  intro u hu
  simp only [hv, List.mem_map] at hu
  obtain ⟨x, _, rfl⟩ := hu
  rfl
theorem bv_one (l : List Nat) : ∀ u ∈ bv l, u.oneCell' = true := by
  intro u hu
  simp only [bv, List.mem_map] at hu
  obtain ⟨x, _, rfl⟩ := hu
  rfl
theorem bv_append (l m : List Nat) : bv (l ++ m) = bv l ++ bv m := by simp [bv]
theorem hv_append (l m : List Nat) : hv (l ++ m) = hv l ++ hv m := by simp [hv]
abbrev sameN (g : Nat) : Nat → Bool := fun h => decide (h = g)
set_option maxRecDepth 100000 in
set_option maxHeartbeats 4000000 in
theorem index_calls (A : Option Addr) (l : List Nat) (c g : Nat) (w : World) (h : Cel w A (hv l)) (hl : l.length ≤ 9223372036854775807) :
    Calls Try.prog 51 #[.slice A l.length c, .int .u16 (g : Nat)] w fun e w' => ∃ r : Int, e = .returned (.int .i64 r) ∧ decide (0 ≤ r) = l.any (sameN g) ∧ w' = w := by
  obtain ⟨n, hn⟩ : ∃ n, l.length = n := ⟨_, rfl⟩
  rw [hn] at hl ⊢
  have HN := Lib.hid hn
  have HC := Lib.hid h
  clear hn h
  go_enter Try.func51, Try.ntmps51
  go_wp2_with (fail)
  go_loopw [8] (fun i wr => ∃ k : Nat, i = .int .i64 k ∧ k ≤ n ∧ Hid (∀ (j : Nat) q, j < k → l[j]? = some q → ¬ q = g) ∧ wr = w) (fun i _ => n - (intOf i).toNat)
  case atStart => exact ⟨0, rfl, by omega, Lib.hid (fun j q hj => absurd hj (Nat.not_lt_zero _)), rfl⟩
  case round =>
    obtain ⟨k, rfl, hk, hR, rfl⟩ := hrel
    by_cases hkn : k < n
    · obtain ⟨b, o, rfl, hlt, hcell⟩ := HC.out.at0 (by rw [hv_length, HN.out]; omega)
      obtain ⟨r, hp⟩ : ∃ r, l[k]? = some r := ⟨_, List.getElem?_eq_getElem (by rw [HN.out]; exact hkn)⟩
      have e1 := hcell k _ (hv_get hp)
      have HP := Lib.hid hp
      clear hp hcell
      by_cases hrg : r = g
      · have d1 : ((g : Int) == (r : Int)) = true := by rw [hrg]; exact beq_self_eq_true _
        have HF : Hid (l.any (sameN g) = true) := Lib.hid (List.any_eq_true.2 ⟨r, List.mem_of_getElem? HP.out, decide_eq_true hrg⟩)
        clear hrg
        go_wp2_with (fail)
        go_ret
        exact ⟨(k : Int), rfl, by rw [HF.out]; exact decide_eq_true (by omega), rfl⟩
      · have d1 : ((g : Int) == (r : Int)) = false := by
          rw [beq_eq_false_iff_ne]
          intro e
          exact hrg (Int.ofNat_inj.1 e).symm
        have HR2 : Hid (∀ (j : Nat) q, j < k + 1 → l[j]? = some q → ¬ q = g) := Lib.hid fun j q hj hq => by
          by_cases hh : j < k
          · exact hR.out j q hh hq
          · obtain rfl : j = k := by omega
            rw [HP.out] at hq
            cases hq
            exact hrg
        clear hrg
        go_wp2_with (fail)
        go_roundw
        case rel => exact ⟨k + 1, by go_num, by omega, HR2, trivial⟩
        case measure => simp [intOf]; omega
    · obtain rfl : k = n := by omega
      have HF : Hid (l.any (sameN g) = false) := Lib.hid (List.any_eq_false.2 fun q hq => by
        obtain ⟨j, hj⟩ := List.getElem?_of_mem hq
        have := hR.out j q (by rw [← HN.out]; exact (List.getElem?_eq_some_iff.1 hj).1) hj
        unfold sameN
        simpa using this)
      go_wp2_with (fail)
      go_ret
      exact ⟨-1, rfl, by rw [HF.out]; rfl, rfl⟩
set_option maxRecDepth 100000 in
theorem contains_calls (A : Option Addr) (l : List Nat) (c g : Nat) (w : World) (h : Cel w A (hv l)) (hl : l.length ≤ 9223372036854775807) :
    Calls Try.prog 47 #[.slice A l.length c, .int .u16 (g : Nat)] w fun e w' => e = .returned (.bool (l.any (sameN g))) ∧ w' = w := by
  have HI := Lib.hid (index_calls A l c g w h hl)
  clear h
  go_enter Try.func47, Try.ntmps47
  go_wp2_with (fail)
  refine HI.out.mono ?_
  rintro e w' ⟨r, rfl, hr, rfl⟩
  have HR := Lib.hid hr
  clear hr HI
  go_wp2_with (fail)
  go_ret
  exact ⟨by rw [HR.out]; rfl, rfl⟩
end Go.Proofs.Ytgdiiicaljidpaa
/- A process as a value; which groups it is in. -/
set_option linter.unusedSimpArgs false
set_option linter.unusedVariables false
namespace Go.Proofs.Ytgdiiicaljidpaa
open Go.RowKit
/-- Its cells, its value; its groups lie at A. -/
abbrev Cr.c (x : Cr) (A : Option Addr) (n : Nat) : Array Value := #[.int .u16 (x.ui : Nat), .int .u16 (x.gi : Nat), .slice A x.gs.length n, .bool x.hi]
abbrev Cr.v (x : Cr) (A : Option Addr) (n : Nat) : Value := .agg (x.c A n)
/-- Its row, in memory; not too long. -/
structure CLies (w : World) (x : Cr) (A : Option Addr) : Prop where
  gs : Cel w A (hv x.gs)
  sm : x.gs.length ≤ 9223372036854775807
theorem CLies.below {w w' : World} {x : Cr} {A : Option Addr} (h : CLies w x A) (hb : Below w.heap.size w w') : CLies w' x A := ⟨h.gs.below hb, h.sm⟩
/-- A block of a process. -/
def Cb (w : World) (b : Nat) (x : Cr) (A : Option Addr) (n : Nat) : Prop := w.heap[b]? = some (.cells (x.c A n) 25 (0, 0))
section
variable {w w' : World} {b : Nat} {x : Cr} {A : Option Addr} {n : Nat}
theorem Cb.new (w : World) (x : Cr) (A : Option Addr) (n : Nat) : Cb (w.alloc (.cells (x.c A n) 25)) w.heap.size x A n := heap_alloc_new w _
theorem Cb.lt (h : Cb w b x A n) : b < w.heap.size := lt_of_cells h
theorem Cb.on (h : Cb w b x A n) (hb : Below w.heap.size w w') : Cb w' b x A n := (hb.block b h.lt).trans h
theorem Cb.cell (h : Cb w b x A n) (k : Nat) : w.cell? ⟨b, k, none⟩ = (x.c A n)[k]? := by
  unfold Cb at h
  simp [World.cell?, h]
theorem Cb.frozen (h : Cb w b x A n) (k : Nat) : w.frozen? ⟨b, k, none⟩ = false := by
  unfold Cb at h
  simp [World.frozen?, h]
theorem Cb.c0 (h : Cb w b x A n) : w.cell? ⟨b, 0, none⟩ = some (.int .u16 (x.ui : Nat)) := h.cell 0
theorem Cb.c1 (h : Cb w b x A n) : w.cell? ⟨b, 1, none⟩ = some (.int .u16 (x.gi : Nat)) := h.cell 1
theorem Cb.c2 (h : Cb w b x A n) : w.cell? ⟨b, 2, none⟩ = some (.slice A x.gs.length n) := h.cell 2
theorem Cb.c3 (h : Cb w b x A n) : w.cell? ⟨b, 3, none⟩ = some (.bool x.hi) := h.cell 3
theorem Cb.all (h : Cb w b x A n) : ∀ j u, (x.c A n).toList[j]? = some u → w.cell? ⟨b, 0 + j, none⟩ = some u := fun j u hu => by
  rw [Nat.zero_add, h.cell]
  simpa using hu
end
theorem cred_size : (Try.prog.info? 25).map (·.size) = some 4 := by kernel_rfl
def chkN (x : Cr) : Int := if x.gs.length ≤ 4 then 0 else 622
theorem gcheck_calls (x : Cr) (A : Option Addr) (n : Nat) (w : World) (hs : x.gs.length ≤ 9223372036854775807) : Calls Try.prog 36 #[x.v A n] w fun e w' => e = .returned (.int .i64 (chkN x)) ∧ Below w.heap.size w w' := by
  have hb0 : Below w.heap.size w (w.alloc (.cells (x.c A n) 25)) := (Below.refl _ _).alloc (Nat.le_refl _) _
  have HB := Lib.hid hb0
  obtain ⟨ui, gi, gs, hi⟩ := x
  obtain ⟨m, hm⟩ : ∃ m, gs.length = m := ⟨_, rfl⟩
  simp only at hs
  have HV : Hid (chkN ⟨ui, gi, gs, hi⟩ = if m ≤ 4 then 0 else 622) := Lib.hid (by rw [← hm]; rfl)
  rw [hm] at hs
  show Calls _ _ #[.agg #[.int .u16 (ui : Nat), .int .u16 (gi : Nat), .slice A gs.length n, .bool hi]] _ _
  rw [hm]
  have HM := Lib.hid hm
  clear hm hb0
  by_cases h4 : m ≤ 4
  · have d1 : decide ((4 : Int) < (m : Int)) = false := by rw [decide_eq_false_iff_not]; omega
    go_enter Try.func36, Try.ntmps36
    go_wp2_with (fail)
    go_ret
    exact ⟨by rw [HV.out, if_pos h4]; rfl, by have q := HB.out; dsimp only [Cr.c] at q; rw [HM.out] at q; exact q⟩
  · have d1 : decide ((4 : Int) < (m : Int)) = true := by rw [decide_eq_true_eq]; omega
    go_enter Try.func36, Try.ntmps36
    go_wp2_with (fail)
    go_ret
    exact ⟨by rw [HV.out, if_neg h4]; rfl, by have q := HB.out; dsimp only [Cr.c] at q; rw [HM.out] at q; exact q⟩
set_option maxRecDepth 100000 in
theorem in_calls (x : Cr) (A : Option Addr) (n g : Nat) (w : World) (h : CLies w x A) : Calls Try.prog 41 #[x.v A n, .int .u16 (g : Nat)] w fun e w' => e = .returned (.bool (inB x g)) ∧ Below w.heap.size w w' := by
  obtain ⟨V, hV⟩ : ∃ V, V = w.alloc (.cells (x.c A n) 25) := ⟨_, rfl⟩
  have hb : Below w.heap.size w V := by rw [hV]; exact (Below.refl _ _).alloc (Nat.le_refl _) _
  have hz : Cb V w.heap.size x A n := by rw [hV]; exact Cb.new w x A n
  have HI := Lib.hid (contains_calls A x.gs n g V (h.gs.below hb) h.sm)
  have HZ := Lib.hid hz
  have HB := Lib.hid hb
  have HV0 : Hid (inB x g = (decide (x.gi = g) || x.gs.any (sameN g))) := Lib.hid rfl
  have y1 := hz.c1
  have y2 := hz.c2
  clear h hb hz
  generalize x.gi = gi at *
  by_cases hg : gi = g
  · have d1 : ((gi : Int) == (g : Int)) = true := by rw [hg]; exact beq_self_eq_true _
    have HV : Hid (inB x g = true) := Lib.hid (by rw [HV0.out, decide_eq_true hg]; rfl)
    clear hg
    go_enter Try.func41, Try.ntmps41
    go_upto_region 1 with (fail)
    rw [← hV]
    clear hV
    go_wp2_with (fail)
    go_ret
    exact ⟨by rw [HV.out]; rfl, HB.out⟩
  · have d1 : ((gi : Int) == (g : Int)) = false := by
      rw [beq_eq_false_iff_ne]
      intro e
      exact hg (Int.ofNat_inj.1 e)
    have HV : Hid (inB x g = x.gs.any (sameN g)) := Lib.hid (by rw [HV0.out, decide_eq_false hg]; rfl)
    clear hg
    go_enter Try.func41, Try.ntmps41
    go_upto_region 1 with (fail)
    rw [← hV]
    clear hV
    go_wp2_with (fail)
    refine HI.out.mono ?_
    rintro e w' ⟨rfl, rfl⟩
    go_wp2_with (fail)
    go_ret
    exact ⟨by rw [HV.out]; rfl, HB.out⟩
set_option maxRecDepth 100000 in
set_option maxHeartbeats 4000000 in
theorem rin_calls (x : Cr) (A : Option Addr) (n g : Nat) (w : World) (h : CLies w x A) : Calls Try.prog 17 #[x.v A n, .int .u16 (g : Nat)] w fun e w' => e = .returned (.bool (inB x g)) ∧ Below w.heap.size w w' := by
  obtain ⟨V, hV⟩ : ∃ V, V = w.alloc (.cells (x.c A n) 25) := ⟨_, rfl⟩
  have hb : Below w.heap.size w V := by rw [hV]; exact (Below.refl _ _).alloc (Nat.le_refl _) _
  have hz : Cb V w.heap.size x A n := by rw [hV]; exact Cb.new w x A n
  have HC := Lib.hid (h.gs.below hb)
  have HZ := Lib.hid hz
  have HB := Lib.hid hb
  have HV0 : Hid (inB x g = (decide (x.gi = g) || x.gs.any (sameN g))) := Lib.hid rfl
  obtain ⟨m, hm⟩ : ∃ m, x.gs.length = m := ⟨_, rfl⟩
  have hs : m ≤ 9223372036854775807 := by rw [← hm]; exact h.sm
  have y1 := hz.c1
  have y2 := hz.c2
  rw [hm] at y2
  have HM := Lib.hid hm
  clear h hb hz hm
  generalize x.gi = gi at *
  go_enter Try.func17, Try.ntmps17
  go_upto_region 1 with (fail)
  rw [← hV]
  clear hV
  go_wp2_with (fail)
  go_loopw [5] (fun i wr => ∃ k : Nat, i = .int .i64 k ∧ k ≤ m ∧ Hid (∀ (j : Nat) q, j < k → x.gs[j]? = some q → ¬ q = g) ∧ wr = V) (fun i _ => m - (intOf i).toNat)
  case atStart => exact ⟨0, rfl, by omega, Lib.hid (fun j q hj => absurd hj (Nat.not_lt_zero _)), rfl⟩
  case round =>
    obtain ⟨k, rfl, hk, hR, rfl⟩ := hrel
    by_cases hkn : k < m
    · obtain ⟨b, o, rfl, hlt, hcell⟩ := HC.out.at0 (by rw [hv_length, HM.out]; omega)
      obtain ⟨r, hp⟩ : ∃ r, x.gs[k]? = some r := ⟨_, List.getElem?_eq_getElem (by rw [HM.out]; exact hkn)⟩
      have e1 := hcell k _ (hv_get hp)
      have HP := Lib.hid hp
      clear hp hcell
      by_cases hrg : r = g
      · have d1 : ((r : Int) == (g : Int)) = true := by rw [hrg]; exact beq_self_eq_true _
        have HF : Hid (inB x g = true) := Lib.hid (by rw [HV0.out, List.any_eq_true.2 ⟨r, List.mem_of_getElem? HP.out, decide_eq_true hrg⟩, Bool.or_true])
        clear hrg
        go_wp2_with (fail)
        go_ret
        exact ⟨by rw [HF.out]; rfl, HB.out⟩
      · have d1 : ((r : Int) == (g : Int)) = false := by
          rw [beq_eq_false_iff_ne]
          intro e
          exact hrg (Int.ofNat_inj.1 e)
        have HR2 : Hid (∀ (j : Nat) q, j < k + 1 → x.gs[j]? = some q → ¬ q = g) := Lib.hid fun j q hj hq => by
          by_cases hh : j < k
          · exact hR.out j q hh hq
          · obtain rfl : j = k := by omega
            rw [HP.out] at hq
            cases hq
            exact hrg
        clear hrg
        go_wp2_with (fail)
        go_roundw
        case rel => exact ⟨k + 1, by go_num, by omega, HR2, trivial⟩
        case measure => simp [intOf]; omega
    · obtain rfl : k = m := by omega
      have HF : Hid (inB x g = ((gi : Int) == (g : Int))) := Lib.hid (by
        rw [HV0.out, List.any_eq_false.2 fun q hq => by
          obtain ⟨j, hj⟩ := List.getElem?_of_mem hq
          have := hR.out j q (by rw [← HM.out]; exact (List.getElem?_eq_some_iff.1 hj).1) hj
          unfold sameN
          simpa using this, Bool.or_false, Bool.eq_iff_iff, beq_iff_eq, decide_eq_true_eq]
        exact Int.ofNat_inj.symm)
      go_wp2_with (fail)
      go_ret
      exact ⟨by rw [HF.out]; rfl, HB.out⟩
end Go.Proofs.Ytgdiiicaljidpaa

/- Has anybody the perm to run? The mask. -/
set_option linter.unusedSimpArgs false
set_option linter.unusedVariables false
namespace Go.Proofs.Ytgdiiicaljidpaa
open Go.RowKit
theorem run_enter {P : Program} {f : FuncId} {fn : Func} {c : Code} (hf : P.funcs[f]? = some fn) (hname : (fn.name == "runtime.NumGoroutine") = false) (hb : fn.body = some c) (args : Array Value) (w : World) :
    (callFunc f args).run P w = .ok (.enter f args) w := by
  have h1 : fn.name ≠ "runtime.NumGoroutine" := by simpa using hname
  simp [callFunc, hf, h1, hb]
/-- What may be, in bytes. -/
structure Low (x : At) : Prop where
  ow : x.ac.ow < 8
  gr : x.ac.gr < 8
  ot : x.ac.ot < 8
  mn : maskN x.ac < 8
  us : ∀ p ∈ x.ac.us, p.pm < 256
  gs : ∀ p ∈ entL x, p.pm < 256
  el : (entL x).length ≤ 1099511627776
theorem low_of {x : At} (h : amayB x = true) : Low x := by
  obtain ⟨_, hac, _, _, _⟩ := amay_parts h
  have hm := mayB_iff.1 hac
  obtain ⟨u7, _⟩ := rise_nm hm.us
  obtain ⟨g7, _⟩ := rise_nm hm.gs
  have h1 := hm.ow
  have h2 := hm.gr
  have h3 := hm.ot
  have h4 := hm.ms
  refine ⟨by omega, by omega, by omega, ?_, fun p hp => by have := u7 p hp; omega, fun p hp => ?_, ?_⟩
  · unfold maskN
    split <;> omega
  · unfold entL at hp
    rcases List.mem_cons.1 hp with rfl | hp
    · show x.ac.gr < 256
      omega
    · have := g7 p hp
      omega
  · have := (namedB_iff.1 hm.gs).2
    show x.ac.gs.length + 1 ≤ 1099511627776
    omega
theorem lt8 {l : List Nat} (h : ∀ p ∈ l, p < 2 ^ 3) : ∀ p ∈ l, p < 256 := fun p hp => by have := h p hp; omega
end Go.Proofs.Ytgdiiicaljidpaa
/- What the first rule that applies has for the process. -/
set_option linter.unusedSimpArgs false
set_option linter.unusedVariables false
namespace Go.Proofs.Ytgdiiicaljidpaa
open Go.RowKit
/-- Two blocks of the call's own: a process, attributes; their rows. -/
structure Pb (w V : World) (c : Cr) (A : Option Addr) (n : Nat) (x : At) (p : ALie) : Prop where
  cb : Cb V w.heap.size c A n
  bt : Bt V (w.heap.size + 1) x p
  cl : CLies V c A
  al : ALies V x p
  be : Below w.heap.size w V
theorem Pb.start {w : World} {c : Cr} {A : Option Addr} {n : Nat} {x : At} {p : ALie} (hc : CLies w c A) (h : ALies w x p) : Pb w ((w.alloc (.cells (c.c A n) 25)).alloc (.cells (x.c p) 31)) c A n x p := by
  have b1 : Below w.heap.size w (w.alloc (.cells (c.c A n) 25)) := (Below.refl _ _).alloc (Nat.le_refl _) _
  have b2 : Below (w.alloc (.cells (c.c A n) 25)).heap.size (w.alloc (.cells (c.c A n) 25)) ((w.alloc (.cells (c.c A n) 25)).alloc (.cells (x.c p) 31)) := (Below.refl _ _).alloc (Nat.le_refl _) _
  have b3 := b1.trans (b2.mono b1.size)
  exact ⟨(Cb.new w c A n).on b2, by have := Bt.new (w.alloc (.cells (c.c A n) 25)) x p; rwa [World.size_alloc] at this, hc.below b3, h.below b3, b3⟩
theorem Pb.on {w V V' : World} {c : Cr} {A : Option Addr} {n : Nat} {x : At} {p : ALie} (h : Pb w V c A n x p) (hb : Below V.heap.size V V') : Pb w V' c A n x p :=
  ⟨h.cb.on hb, h.bt.on hb, h.cl.below hb, h.al.below hb, h.be.trans (hb.mono h.be.size)⟩
theorem below_a2 {w W : World} {o o' : Obj} (h : Below w.heap.size w W) : Below w.heap.size w ((W.alloc o).alloc o') := (h.alloc h.size o).alloc (by rw [World.size_alloc]; have := h.size; omega) o'
end Go.Proofs.Ytgdiiicaljidpaa
