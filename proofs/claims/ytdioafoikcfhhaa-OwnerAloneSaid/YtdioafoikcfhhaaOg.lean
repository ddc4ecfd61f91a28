/- The program's changed: a copy is turned by a function value; what it ends with is caught. -/
import Derived.Test.YtdioafoikcfhhaaOf
set_option linter.unusedSimpArgs false
set_option linter.unusedVariables false
set_option linter.unusedSimpArgs false
set_option linter.unusedVariables false
namespace Go.Proofs.Ytdioafoikcfhhaa
open Go.RowKit
def chgN (c : Cr) (x : At) (m : Int) : Int := if validB c x then m else 622
def chgA (c : Cr) (x : At) (m : Int) (y : At) : At := if validB c x then (if m = 0 then y else atZ) else atZ
/-- Results in two blocks: attributes, an error. -/
structure Gv (B V : World) (g h : Nat) (R : Array Value) (v : Value) : Prop where
  rg : V.heap[g]? = some (.cells R 31 (0, 0))
  rs : R.size = 19
  rh : V.heap[h]? = some (.cells #[v] 35 (0, 0))
  be : Below B.heap.size B V
  hg : B.heap.size ≤ g
  hh : B.heap.size ≤ h
  ne : g ≠ h
section
variable {B V V' : World} {g h : Nat} {R : Array Value} {v : Value}
theorem Gv.on (k : Gv B V g h R v) (hb : Below V.heap.size V V') : Gv B V' g h R v :=
  ⟨(hb.block _ (lt_of_cells k.rg)).trans k.rg, k.rs, (hb.block _ (lt_of_cells k.rh)).trans k.rh, k.be.trans (hb.mono k.be.size), k.hg, k.hh, k.ne⟩
theorem Gv.start (B : World) : Gv B ((B.alloc (.cells zAt 31)).alloc (.cells #[.int .i64 0] 35)) B.heap.size (B.heap.size + 1) zAt (.int .i64 0) := by
  have b1 : Below B.heap.size B (B.alloc (.cells zAt 31)) := (Below.refl _ _).alloc (Nat.le_refl _) _
  have b2 : Below (B.alloc (.cells zAt 31)).heap.size (B.alloc (.cells zAt 31)) ((B.alloc (.cells zAt 31)).alloc (.cells #[.int .i64 0] 35)) := (Below.refl _ _).alloc (Nat.le_refl _) _
  have h1 := heap_alloc_new B (.cells zAt 31)
  have h2 := heap_alloc_new (B.alloc (.cells zAt 31)) (.cells #[.int .i64 0] 35)
  rw [World.size_alloc] at h2
  exact ⟨(b2.block _ (by rw [World.size_alloc]; omega)).trans h1, rfl, h2, b1.trans (b2.mono b1.size), Nat.le_refl _, by omega, by omega⟩
theorem Gv.putg (k : Gv B V g h R v) (C : Array Value) (hC : C.size = 19) : Gv B (V.setRow g C) g h C v :=
  ⟨setRow_heap _ _ _ _ _ _ k.rg, hC, (setRow_other V g h _ (Ne.symm k.ne)).trans k.rh, below_setRow k.be k.hg _, k.hg, k.hh, k.ne⟩
theorem Gv.puth (k : Gv B V g h R v) (u : Value) : Gv B (V.setRow h #[u]) g h R u :=
  ⟨(setRow_other V h g _ k.ne).trans k.rg, k.rs, setRow_heap _ _ _ _ _ _ k.rh, below_setRow k.be k.hh _, k.hg, k.hh, k.ne⟩
end
theorem OwnR.turnE {w : World} {size n c h : Nat} {e : TypeId} {A : Option Addr} {xs : List Value} {v : Value} (k : OwnR w e size A n c xs) (hg : w.heap[h]? = some (.cells #[v] 35 (0, 0))) (he : e ≠ 35) (D : Array Value) : OwnR (w.setRow h D) e size A n c xs := k.turn hg he D
theorem AOw.turnE {w : World} {x : At} {p : ALie} {h : Nat} {v : Value} (k : AOw w x p) (hg : w.heap[h]? = some (.cells #[v] 35 (0, 0))) (D : Array Value) : AOw (w.setRow h D) x p :=
  ⟨k.ac.turn hg (by decide) D, k.df.turn hg (by decide) D, k.xs.turn hg (by decide) D⟩
/-- Both results out of their blocks. -/
theorem results_rows {P : Program} {fn : Func} {p q : Tmp} {ty ty' : TypeId} (hr : fn.results = #[.cell p ty, .cell q ty']) (tmps : Array Value) (w : World) (g h : Nat) (t t' : TypeId) (cs : Array Value) (v : Value) (d : TypeDesc)
    (hp : tmps.getD p undef = .pointer (some ⟨g, 0, none⟩)) (hg : w.heap[g]? = some (.cells cs t (0, 0))) (hq : tmps.getD q undef = .pointer (some ⟨h, 0, none⟩)) (hh : w.heap[h]? = some (.cells #[v] t' (0, 0)))
    (hu : P.underlying ty = some d) (hd : (match d with | .struct _ | .array _ _ => true | _ => false) = true) (hi : (P.info? ty).map (·.size) = some cs.size)
    (hl : ∀ u : World, u.cell? ⟨h, 0, none⟩ = some v → (loadVar ty' ⟨h, 0, none⟩).run P u = .ok v u) :
    (results fn tmps).run P w = .ok (.tuple #[.agg cs, v]) w := by
  have hp' : tmps[p]?.getD undef = .pointer (some ⟨g, 0, none⟩) := by simpa using hp
  have hq' : tmps[q]?.getD undef = .pointer (some ⟨h, 0, none⟩) := by simpa using hq
  have hc : w.cell? ⟨h, 0, none⟩ = some v := by simp [World.cell?, hh]
  simp [results, hr, hp', hq', asAddr, run_loadVar_row w g t ty cs (0, 0) d hg hu hd hi, hl w hc]
theorem load_errno (h : Nat) (n : Int) (u : World) (hc : u.cell? ⟨h, 0, none⟩ = some (.int .i64 n)) : (loadVar 35 ⟨h, 0, none⟩).run Try.prog u = .ok (.int .i64 n) u := by
  have h1 : (isAgg 35).run Try.prog u = .ok false u := by
    unfold isAgg
    rw [Sem.run_bind, run_underlying Try.underlying35 u]
    rfl
  simp [loadVar, Sem.run_bind, h1, go_sem, hc]
/-- How a change ends: with y, or by a panic with m. -/
def Ends (W : World) (m : Int) (y : At) (e : Ending) (W' : World) : Prop := Below W.heap.size W W' ∧ ((m = 0 ∧ ∃ q', e = .returned (At.v y q') ∧ AOw W' y q') ∨ (m ≠ 0 ∧ e = raises m))
set_option maxRecDepth 100000 in
set_option maxHeartbeats 4000000 in
theorem changed_calls (c : Cr) (A : Option Addr) (n : Nat) (x : At) (p : ALie) (fid : FuncId) (caps : Array Value) (y : At) (m : Int) (w : World) (hc : CLies w c A) (h : ALies w x p) (hs : ASm x)
    (hcf : ∀ (args : Array Value) (W : World), (callFunc fid args).run Try.prog W = .ok (.enter fid args) W)
    (hch : validB c x = true → ∀ q W, AOw W x q → Below w.heap.size w W → Calls Try.prog fid (#[x.v q] ++ caps) W fun e W' => Ends W m y e W') :
    Calls Try.prog 35 #[c.v A n, x.v p, .func (.func fid) #[] caps] w fun e w' => ∃ q, e = .returned (.tuple #[At.v (chgA c x m y) q, .int .i64 (chgN c x m)]) ∧ AOw w' (chgA c x m y) q ∧ Below w.heap.size w w' := by
  have hmf : ∀ (fn : Fn) (first cap : Array Value) (w : World), (Instr.makeFunc fn first cap).run Try.prog w = .ok (.func fn first cap) w := fun _ _ _ _ => rfl
  obtain ⟨B, hB⟩ : ∃ B, B = (w.alloc (.cells (c.c A n) 25)).alloc (.cells (x.c p) 31) := ⟨_, rfl⟩
  have P0 : Hid (Pb w B c A n x p) := Lib.hid (by rw [hB]; exact Pb.start hc h)
  have hsz : B.heap.size = w.heap.size + 2 := by rw [hB, World.size_alloc, World.size_alloc]
  obtain ⟨V, hV⟩ : ∃ V, V = (B.alloc (.cells zAt 31)).alloc (.cells #[.int .i64 0] 35) := ⟨_, rfl⟩
  have S0 : Hid (Gv B V (w.heap.size + 2) (w.heap.size + 3) zAt (.int .i64 0)) := Lib.hid (by
    rw [hV, show w.heap.size + 3 = (w.heap.size + 2) + 1 from rfl, ← hsz]
    exact Gv.start B)
  have HS := Lib.hid hs
  have HCH := Lib.hid hch
  have HCF := Lib.hid hcf
  clear h hc hs hsz hch hcf
  rw [hB] at hV
  go_enter_defers Try.func35, Try.ntmps35
  go_upto_region 1 with (fail)
  rw [← hV]
  clear hV hB
  go_wp2_with (first
  | (refine wpList_load_part rfl 25 (.tmp 3) rfl w.heap.size 0 rfl (Cr.c c A n).toList _ (P0.out.cb.on S0.out.be).all Try.underlying25 rfl cred_size (Cr.v c A n) rfl ?_)
  | (refine wpList_load_part rfl 31 (.tmp 4) rfl (w.heap.size + 1) 0 rfl (At.c x p).toList _ (P0.out.bt.on S0.out.be).bt0 Try.underlying31 rfl attr_size (At.v x p) rfl ?_))
  refine (ovalid_calls c A n x p V (P0.out.cl.below S0.out.be) (P0.out.al.below S0.out.be) HS.out).mono ?_
  rintro e w1 ⟨rfl, hb⟩
  have S1 := Lib.hid (S0.out.on hb)
  clear hb S0
  cases hv : validB c x
  case false =>
    have HN : Hid (chgN c x m = 622) := Lib.hid (by unfold chgN; rw [hv]; rfl)
    have HA : Hid (chgA c x m y = atZ) := Lib.hid (by unfold chgA; rw [hv]; rfl)
    clear hv HCH HCF
    go_wp2_with (fail)
    refine (need_no 622 w1).mono ?_
    rintro e w2 ⟨rfl, rfl⟩
    go_wp2_with (fail)
    refine leaves_cons (f := 62) (args := #[.pointer (some ⟨w.heap.size + 2, 0, none⟩), .pointer (some ⟨w.heap.size + 3, 0, none⟩)]) (by simp) (by simp [go_sem]) ?_
    refine (catch_calls (w.heap.size + 2) (w.heap.size + 3) 622 [] zAt (.int .i64 0) w2 (by omega) S1.out.rg S1.out.rs S1.out.rh).mono ?_
    rintro e u' w9 ⟨rfl, rfl, hg9, hh9, ho⟩
    have hb9 := ho.below (B := w.heap.size) (by have := S1.out.be.size; have := P0.out.be.size; omega) (fun i hi => by omega)
    refine ⟨_, results_rows rfl _ _ (w.heap.size + 2) (w.heap.size + 3) 31 35 zAt (.int .i64 622) _ rfl hg9 rfl hh9 Try.underlying31 rfl attr_size (fun u => load_errno _ 622 u), alieZ, by rw [HA.out, HN.out]; rfl, by rw [HA.out]; exact AOw.z _, (P0.out.be.trans (S1.out.be.mono P0.out.be.size)).trans hb9⟩
  case true =>
    have HN : Hid (chgN c x m = m) := Lib.hid (by unfold chgN; rw [hv]; rfl)
    have HA : Hid (chgA c x m y = if m = 0 then y else atZ) := Lib.hid (by unfold chgA; rw [hv]; rfl)
    have HV := Lib.hid hv
    clear hv
    go_wp2_with (fail)
    refine (need_ok 622 w1).mono ?_
    rintro e w2 ⟨rfl, rfl⟩
    go_wp2_with (refine wpList_load_part rfl 31 (.tmp 4) rfl (w.heap.size + 1) 0 rfl (At.c x p).toList _ (P0.out.bt.on S1.out.be).bt0 Try.underlying31 rfl attr_size (At.v x p) rfl ?_)
    refine (acopy_calls x p w2 (P0.out.al.below S1.out.be) HS.out).mono ?_
    rintro e w3 ⟨q, rfl, hC, hb⟩
    have S3 := Lib.hid (S1.out.on hb)
    have HO := Lib.hid (AOw.of hC)
    clear hb hC S1
    go_wp2_with (fail)
    rw [HCF.out, Oper.upon_enter]
    refine (HCH.out HV.out q w3 HO.out (P0.out.be.trans (S3.out.be.mono P0.out.be.size))).mono ?_
    rintro e w4 ⟨hb, hr⟩
    have S4 := Lib.hid (S3.out.on hb)
    clear hb S3 HCH HCF HO HV
    rcases hr with ⟨hm, q', rfl, how⟩ | ⟨hm, rfl⟩
    case inr =>
      have HA2 : Hid (chgA c x m y = atZ) := Lib.hid (by rw [HA.out, if_neg hm])
      clear HA hm
      have HA := HA2
      clear HA2
      go_wp2_with (fail)
      refine leaves_cons (f := 62) (args := #[.pointer (some ⟨w.heap.size + 2, 0, none⟩), .pointer (some ⟨w.heap.size + 3, 0, none⟩)]) (by simp) (by simp [go_sem]) ?_
      refine (catch_calls (w.heap.size + 2) (w.heap.size + 3) m [] zAt (.int .i64 0) w4 (by omega) S4.out.rg S4.out.rs S4.out.rh).mono ?_
      rintro e u' w9 ⟨rfl, rfl, hg9, hh9, ho⟩
      have hb9 := ho.below (B := w.heap.size) (by have := S4.out.be.size; have := P0.out.be.size; omega) (fun i hi => by omega)
      refine ⟨_, results_rows rfl _ _ (w.heap.size + 2) (w.heap.size + 3) 31 35 zAt (.int .i64 m) _ rfl hg9 rfl hh9 Try.underlying31 rfl attr_size (fun u => load_errno _ m u), alieZ, by rw [HA.out, HN.out]; rfl, by rw [HA.out]; exact AOw.z _, (P0.out.be.trans (S4.out.be.mono P0.out.be.size)).trans hb9⟩
    case inl =>
      have HA2 : Hid (chgA c x m y = y) := Lib.hid (by rw [HA.out, if_pos hm])
      have HN2 : Hid (chgN c x m = 0) := Lib.hid (by rw [HN.out, hm])
      clear HA HN hm
      obtain ⟨C, hC⟩ : ∃ C, C = At.c y q' := ⟨_, rfl⟩
      have hone : C.all (·.oneCell') = true := by rw [hC]; exact c_one _ _
      have hsz : (Try.prog.info? 31).map (·.size) = some C.size := by rw [hC]; exact c_size _ _
      have hold : (zAt : Array Value).size = C.size := by rw [hC]; rfl
      have h19 : C.size = 19 := by rw [hC]; rfl
      obtain ⟨Z, hZ⟩ : ∃ Z, Z = World.setRow w4 (w.heap.size + 2) C := ⟨_, rfl⟩
      have S5 := Lib.hid (S4.out.putg C h19)
      have HO5 := Lib.hid (how.turn S4.out.rg C)
      rw [← hZ] at S5 HO5
      obtain ⟨Y, hY⟩ : ∃ Y, Y = World.setRow Z (w.heap.size + 3) #[.int .i64 0] := ⟨_, rfl⟩
      have S6 := Lib.hid (S5.out.puth (.int .i64 0))
      have HO6 := Lib.hid (HO5.out.turnE S5.out.rh #[.int .i64 0])
      rw [← hY] at S6 HO6
      have HC := Lib.hid hC
      rw [show At.v y q' = .agg C by rw [hC]]
      clear hC how
      go_wp2_with (first
  | (refine wpList_store_rowTo rfl 31 (.tmp 6) (.tmp 16) rfl rfl (w.heap.size + 2) C rfl rfl 31 _ S4.out.rg hsz hold hone ?_; rw [← hZ])
  | (refine wpList_store_oneTo rfl 35 (.tmp 7) (.const (.int .i64 0)) rfl rfl (w.heap.size + 3) (.int .i64 0) rfl rfl rfl 35 _ S5.out.rh errno_size ?_; rw [← hY]))
      refine leaves_cons (f := 62) (args := #[.pointer (some ⟨w.heap.size + 2, 0, none⟩), .pointer (some ⟨w.heap.size + 3, 0, none⟩)]) (by simp) (by simp [go_sem]) ?_
      refine (catch_idle (w.heap.size + 2) (w.heap.size + 3) Y).mono ?_
      rintro e u' w7 ⟨rfl, rfl, rfl⟩
      refine ⟨_, results_rows rfl _ _ (w.heap.size + 2) (w.heap.size + 3) 31 35 C (.int .i64 0) _ rfl S6.out.rg rfl S6.out.rh Try.underlying31 rfl hsz (fun u => load_errno _ 0 u), q', by rw [HC.out, HA2.out, HN2.out], by rw [HA2.out]; exact HO6.out, P0.out.be.trans (S6.out.be.mono P0.out.be.size)⟩
end Go.Proofs.Ytdioafoikcfhhaa
