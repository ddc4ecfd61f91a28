/- EntryReads: whatever it is called with, it hands back true; nothing that was there has turned. -/
import Derived.Test.YtipghcpodhokbaaDoorLaw2
import Derived.Test.YtipghcpodhokbaaDoorLaw1
set_option linter.unusedSimpArgs false
set_option linter.unusedVariables false
namespace Go.Proofs.YtipghcpodhokbaaDoor
open Go.RowKit WordMath SumMath
theorem fltV_two (o : Option (Nat × Int)) : ∃ f0 f1 : Int, fltV o = .agg #[.int .i64 f0, .int .i64 f1] := by
  cases o with
  | none => exact ⟨0, 0, rfl⟩
  | some kn => exact ⟨kn.1, kn.2, rfl⟩
theorem decD_length (l : List Nat) (P I B : Int) : (decD l P I B).L.length = 10 := by
  unfold decD
  split
  · simp [rdD]
  · simp [zD, zL]
/-- A block made, a directory's block stored in it. -/
theorem Db.stored {w : World} {d : Dbl} : Db ((w.alloc (.cells #[.int .i64 0, .int .i64 0, .int .u8 0, .string ⟨#[]⟩, .int .i64 0, .int .u8 0, .string ⟨#[]⟩, .int .i64 0, .int .u8 0, .string ⟨#[]⟩, .int .i64 0, .int .u8 0, .string ⟨#[]⟩, .int .i64 0, .int .u8 0, .string ⟨#[]⟩, .int .i64 0, .int .u8 0, .string ⟨#[]⟩, .int .i64 0, .int .u8 0, .string ⟨#[]⟩, .int .i64 0, .int .u8 0, .string ⟨#[]⟩, .int .i64 0, .int .u8 0, .string ⟨#[]⟩, .int .i64 0, .int .u8 0, .string ⟨#[]⟩] 26)).setRow w.heap.size d.c) w.heap.size d ∧ On w ((w.alloc (.cells #[.int .i64 0, .int .i64 0, .int .u8 0, .string ⟨#[]⟩, .int .i64 0, .int .u8 0, .string ⟨#[]⟩, .int .i64 0, .int .u8 0, .string ⟨#[]⟩, .int .i64 0, .int .u8 0, .string ⟨#[]⟩, .int .i64 0, .int .u8 0, .string ⟨#[]⟩, .int .i64 0, .int .u8 0, .string ⟨#[]⟩, .int .i64 0, .int .u8 0, .string ⟨#[]⟩, .int .i64 0, .int .u8 0, .string ⟨#[]⟩, .int .i64 0, .int .u8 0, .string ⟨#[]⟩, .int .i64 0, .int .u8 0, .string ⟨#[]⟩] 26)).setRow w.heap.size d.c) :=
  ⟨setRow_heap _ w.heap.size _ d.c 26 (0, 0) (heap_alloc_new _ _), below_setRow (on_alloc _ _) (Nat.le_refl _) _⟩
/-- .. and a fault in another one. -/
theorem Db.stored2 {w : World} {d : Dbl} {k n : Int} : Db ((((w.alloc (.cells #[.int .i64 0, .int .i64 0, .int .u8 0, .string ⟨#[]⟩, .int .i64 0, .int .u8 0, .string ⟨#[]⟩, .int .i64 0, .int .u8 0, .string ⟨#[]⟩, .int .i64 0, .int .u8 0, .string ⟨#[]⟩, .int .i64 0, .int .u8 0, .string ⟨#[]⟩, .int .i64 0, .int .u8 0, .string ⟨#[]⟩, .int .i64 0, .int .u8 0, .string ⟨#[]⟩, .int .i64 0, .int .u8 0, .string ⟨#[]⟩, .int .i64 0, .int .u8 0, .string ⟨#[]⟩, .int .i64 0, .int .u8 0, .string ⟨#[]⟩] 26)).alloc (.cells #[.int .i64 0, .int .i64 0] 54)).setRow w.heap.size d.c).setRow (w.heap.size + 1) #[.int .i64 k, .int .i64 n]) w.heap.size d ∧
    Ob ((((w.alloc (.cells #[.int .i64 0, .int .i64 0, .int .u8 0, .string ⟨#[]⟩, .int .i64 0, .int .u8 0, .string ⟨#[]⟩, .int .i64 0, .int .u8 0, .string ⟨#[]⟩, .int .i64 0, .int .u8 0, .string ⟨#[]⟩, .int .i64 0, .int .u8 0, .string ⟨#[]⟩, .int .i64 0, .int .u8 0, .string ⟨#[]⟩, .int .i64 0, .int .u8 0, .string ⟨#[]⟩, .int .i64 0, .int .u8 0, .string ⟨#[]⟩, .int .i64 0, .int .u8 0, .string ⟨#[]⟩, .int .i64 0, .int .u8 0, .string ⟨#[]⟩] 26)).alloc (.cells #[.int .i64 0, .int .i64 0] 54)).setRow w.heap.size d.c).setRow (w.heap.size + 1) #[.int .i64 k, .int .i64 n]) (w.heap.size + 1) (.cells #[.int .i64 k, .int .i64 n] 54 (0, 0)) ∧
    (((w.alloc (.cells #[.int .i64 0, .int .i64 0, .int .u8 0, .string ⟨#[]⟩, .int .i64 0, .int .u8 0, .string ⟨#[]⟩, .int .i64 0, .int .u8 0, .string ⟨#[]⟩, .int .i64 0, .int .u8 0, .string ⟨#[]⟩, .int .i64 0, .int .u8 0, .string ⟨#[]⟩, .int .i64 0, .int .u8 0, .string ⟨#[]⟩, .int .i64 0, .int .u8 0, .string ⟨#[]⟩, .int .i64 0, .int .u8 0, .string ⟨#[]⟩, .int .i64 0, .int .u8 0, .string ⟨#[]⟩, .int .i64 0, .int .u8 0, .string ⟨#[]⟩] 26)).alloc (.cells #[.int .i64 0, .int .i64 0] 54)).setRow w.heap.size d.c).heap[w.heap.size + 1]? = some (.cells #[.int .i64 0, .int .i64 0] 54 (0, 0)) ∧
    On w ((((w.alloc (.cells #[.int .i64 0, .int .i64 0, .int .u8 0, .string ⟨#[]⟩, .int .i64 0, .int .u8 0, .string ⟨#[]⟩, .int .i64 0, .int .u8 0, .string ⟨#[]⟩, .int .i64 0, .int .u8 0, .string ⟨#[]⟩, .int .i64 0, .int .u8 0, .string ⟨#[]⟩, .int .i64 0, .int .u8 0, .string ⟨#[]⟩, .int .i64 0, .int .u8 0, .string ⟨#[]⟩, .int .i64 0, .int .u8 0, .string ⟨#[]⟩, .int .i64 0, .int .u8 0, .string ⟨#[]⟩, .int .i64 0, .int .u8 0, .string ⟨#[]⟩] 26)).alloc (.cells #[.int .i64 0, .int .i64 0] 54)).setRow w.heap.size d.c).setRow (w.heap.size + 1) #[.int .i64 k, .int .i64 n]) := by
  have h0 : ((w.alloc (.cells #[.int .i64 0, .int .i64 0, .int .u8 0, .string ⟨#[]⟩, .int .i64 0, .int .u8 0, .string ⟨#[]⟩, .int .i64 0, .int .u8 0, .string ⟨#[]⟩, .int .i64 0, .int .u8 0, .string ⟨#[]⟩, .int .i64 0, .int .u8 0, .string ⟨#[]⟩, .int .i64 0, .int .u8 0, .string ⟨#[]⟩, .int .i64 0, .int .u8 0, .string ⟨#[]⟩, .int .i64 0, .int .u8 0, .string ⟨#[]⟩, .int .i64 0, .int .u8 0, .string ⟨#[]⟩, .int .i64 0, .int .u8 0, .string ⟨#[]⟩] 26)).alloc (.cells #[.int .i64 0, .int .i64 0] 54)).heap[w.heap.size]? = some (.cells #[.int .i64 0, .int .i64 0, .int .u8 0, .string ⟨#[]⟩, .int .i64 0, .int .u8 0, .string ⟨#[]⟩, .int .i64 0, .int .u8 0, .string ⟨#[]⟩, .int .i64 0, .int .u8 0, .string ⟨#[]⟩, .int .i64 0, .int .u8 0, .string ⟨#[]⟩, .int .i64 0, .int .u8 0, .string ⟨#[]⟩, .int .i64 0, .int .u8 0, .string ⟨#[]⟩, .int .i64 0, .int .u8 0, .string ⟨#[]⟩, .int .i64 0, .int .u8 0, .string ⟨#[]⟩, .int .i64 0, .int .u8 0, .string ⟨#[]⟩] 26 (0, 0)) := (Ob.new w _).alloc _
  have h1 : ((w.alloc (.cells #[.int .i64 0, .int .i64 0, .int .u8 0, .string ⟨#[]⟩, .int .i64 0, .int .u8 0, .string ⟨#[]⟩, .int .i64 0, .int .u8 0, .string ⟨#[]⟩, .int .i64 0, .int .u8 0, .string ⟨#[]⟩, .int .i64 0, .int .u8 0, .string ⟨#[]⟩, .int .i64 0, .int .u8 0, .string ⟨#[]⟩, .int .i64 0, .int .u8 0, .string ⟨#[]⟩, .int .i64 0, .int .u8 0, .string ⟨#[]⟩, .int .i64 0, .int .u8 0, .string ⟨#[]⟩, .int .i64 0, .int .u8 0, .string ⟨#[]⟩] 26)).alloc (.cells #[.int .i64 0, .int .i64 0] 54)).heap[w.heap.size + 1]? = some (.cells #[.int .i64 0, .int .i64 0] 54 (0, 0)) := by
    have h := heap_alloc_new (w.alloc (.cells #[.int .i64 0, .int .i64 0, .int .u8 0, .string ⟨#[]⟩, .int .i64 0, .int .u8 0, .string ⟨#[]⟩, .int .i64 0, .int .u8 0, .string ⟨#[]⟩, .int .i64 0, .int .u8 0, .string ⟨#[]⟩, .int .i64 0, .int .u8 0, .string ⟨#[]⟩, .int .i64 0, .int .u8 0, .string ⟨#[]⟩, .int .i64 0, .int .u8 0, .string ⟨#[]⟩, .int .i64 0, .int .u8 0, .string ⟨#[]⟩, .int .i64 0, .int .u8 0, .string ⟨#[]⟩, .int .i64 0, .int .u8 0, .string ⟨#[]⟩] 26)) (.cells #[.int .i64 0, .int .i64 0] 54)
    rwa [World.size_alloc] at h
  have h2 := (setRow_other ((w.alloc (.cells #[.int .i64 0, .int .i64 0, .int .u8 0, .string ⟨#[]⟩, .int .i64 0, .int .u8 0, .string ⟨#[]⟩, .int .i64 0, .int .u8 0, .string ⟨#[]⟩, .int .i64 0, .int .u8 0, .string ⟨#[]⟩, .int .i64 0, .int .u8 0, .string ⟨#[]⟩, .int .i64 0, .int .u8 0, .string ⟨#[]⟩, .int .i64 0, .int .u8 0, .string ⟨#[]⟩, .int .i64 0, .int .u8 0, .string ⟨#[]⟩, .int .i64 0, .int .u8 0, .string ⟨#[]⟩, .int .i64 0, .int .u8 0, .string ⟨#[]⟩] 26)).alloc (.cells #[.int .i64 0, .int .i64 0] 54)) w.heap.size (w.heap.size + 1) d.c (by omega)).trans h1
  refine ⟨?_, setRow_heap _ _ _ _ _ _ h2, h2, ?_⟩
  · exact (setRow_other _ (w.heap.size + 1) w.heap.size _ (by omega)).trans (setRow_heap _ w.heap.size _ d.c 26 (0, 0) h0)
  · exact below_setRow (below_setRow (on_two _ _ _) (Nat.le_refl _) _) (Nat.le_succ _) _
/-- A fault's number stored. -/
theorem Fb.set1 {w : World} {g : Nat} {k n : Int} (h : Ob w g (.cells #[.int .i64 k, .int .i64 n] 54 (0, 0))) (x : Int) : Ob (w.setCell ⟨g, 1, none⟩ (.int .i64 x)) g (.cells #[.int .i64 k, .int .i64 x] 54 (0, 0)) := by
  unfold Ob at h ⊢
  simp [World.setCell, Array.getElem?_modify, h]
theorem Ob.frozen {w : World} {g : Nat} {cs : Array Value} {t : TypeId} (h : Ob w g (.cells cs t (0, 0))) (k : Nat) : w.frozen? ⟨g, k, none⟩ = false := by
  unfold Ob at h; simp [World.frozen?, h]
/-- What EntryReads keeps. -/
structure Rdr (w0 W : World) (P I B : Int) (A A1 C A2 : Option Addr) (l m : List Nat) (y1 : Nat) (x : Slt) (b1 : Nat) (d : Dbl) : Prop where
  on : On w0 W
  geo : Gb W w0.heap.size P I B
  r0 : Row W A l
  r1 : Row W A1 l
  m0 : Row W C m
  m1 : Row W A2 m
  slo : Sb W y1 x
  blk : Db W b1 d
theorem Rdr.on' {w0 W V : World} {P I B : Int} {A A1 C A2 : Option Addr} {l m : List Nat} {y1 : Nat} {x : Slt} {b1 : Nat} {d : Dbl} (h : Rdr w0 W P I B A A1 C A2 l m y1 x b1 d) (hb : On W V) : Rdr w0 V P I B A A1 C A2 l m y1 x b1 d :=
  ⟨h.on.trans hb, Ob.on h.geo hb, h.r0.below hb, h.r1.below hb, h.m0.below hb, h.m1.below hb, Ob.on h.slo hb, Ob.on h.blk hb⟩
set_option maxRecDepth 100000 in
set_option maxHeartbeats 2000000 in
theorem ereads_long (A C : Option Addr) (l m : List Nat) (c cm : Nat) (P I B : Int) (w : World) (hl : 40 < l.length ∨ 100 < m.length) (hT : TabAt w) (hE : ErrAt w) :
    Calls Tryd.prog 4 #[.slice A l.length c, .slice C m.length cm, gv P I B] w fun e w' => e = .returned (.bool true) ∧ On w w' := by
  have HT := Lib.hid hT
  have HE := Lib.hid hE
  have B0 := Lib.hid (on_alloc w (.cells #[.int .i64 P, .int .i64 I, .int .i64 B] 28))
  clear hT hE
  generalize l.length = k at *
  generalize m.length = j at *
  have hh : 40 < k ∨ (k ≤ 40 ∧ 100 < j) := by omega
  clear hl
  rcases hh with h | ⟨h, h2⟩
  all_goals
    go_enter Tryd.func4, Tryd.ntmps4
    go_upto_region 1 with (fail)
    generalize w.alloc (.cells #[.int .i64 P, .int .i64 I, .int .i64 B] 28) = W at *
  · have hd : decide (40 < (k : Int)) = true := decide_eq_true (by omega)
    go_wp2_with (fail)
    refine (alive_calls _ (HT.out.below B0.out) (HE.out.below B0.out)).mono ?_
    rintro e w1 ⟨rfl, hb⟩
    have b1 := B0.out.trans hb
    clear B0 hb
    go_wp2_with (fail)
    go_ret
    exact ⟨rfl, b1⟩
  · have hd : decide (40 < (k : Int)) = false := by rw [decide_eq_false_iff_not]; omega
    have hd2 : decide (100 < (j : Int)) = true := decide_eq_true (by omega)
    go_wp2_with (fail)
    refine (alive_calls _ (HT.out.below B0.out) (HE.out.below B0.out)).mono ?_
    rintro e w1 ⟨rfl, hb⟩
    have b1 := B0.out.trans hb
    clear B0 hb
    go_wp2_with (fail)
    go_ret
    exact ⟨rfl, b1⟩
set_option maxRecDepth 100000 in
set_option maxHeartbeats 4000000 in
theorem ereads_go (A C : Option Addr) (l m : List Nat) (c cm : Nat) (P I B : Int) (w : World) (hrl : Row w A l) (hrm : Row w C m) (hwl : Wd l) (hwm : Wd m) (hcl : l.length ≤ c) (hcm : m.length ≤ cm) (hl : l.length ≤ 40) (hm : m.length ≤ 100) (hT : TabAt w) (hE : ErrAt w) :
    Calls Tryd.prog 4 #[.slice A l.length c, .slice C m.length cm, gv P I B] w fun e w' => e = .returned (.bool true) ∧ On w w' := by
  have hdc := fun A c W (hr : Row W A l) (hc : l.length ≤ c) (hT : TabAt W) => dec_calls A l c P I B W hr hwl hc hT
  have hrd := fun A c W (hr : Row W A m) (hc : m.length ≤ c) (hT : TabAt W) (hE : ErrAt W) => readD_calls A m c P I B W hr hwm hc hT hE
  have hrc : GOK P I B → ∀ W, Row W A l → Calls Tryd.prog 23 #[.slice A l.length c, gv P I B] W fun e w' => e = .returned (.tuple #[(decV l P I B).v, .bool (decOk l I)]) ∧ On W w' := fun hg W hr => by
    have h := rdec_calls A l c P I B W hg hr hwl hcl
    have e : (if decOk l I = true then rdS l else zS) = decV l P I B := by
      simp only [decV, decBad, hg, not_true, if_false]
      cases decOk l I <;> simp
    rwa [e] at h
  have hrr := fun W (hr : Row W C m) => rread_calls C m cm P I B W hr hwm hcm
  have hto := fun W (hE : ErrAt W) => told_slot (decBad l P I B) W (fun n h => decBad_ne h) hE
  have htp := fun W (hE : ErrAt W) => told_block (badD m P I B) W (fun k n h => badD_ne h) hE
  obtain ⟨f0, f1, hfv⟩ := fltV_two (badD m P I B)
  rw [hfv] at htp
  simp only [hfv] at hrr
  have hxz : ¬ GOK P I B → decV l P I B = zS := fun hg => by unfold decV decBad; rw [if_pos hg]; rfl
  have hf1 : ¬ GOK P I B → (decBad l P I B).getD 0 = 2 := fun hg => by unfold decBad; rw [if_pos hg]; rfl
  have hf2 : GOK P I B → decOk l I = true → (decBad l P I B).getD 0 = 0 := fun hg h => by unfold decBad; rw [if_neg (by simpa using hg), if_pos h]; rfl
  have hf3 : GOK P I B → decOk l I = false → (decBad l P I B).getD 0 = 7 := fun hg h => by unfold decBad; rw [if_neg (by simpa using hg), if_neg (by rw [h]; decide)]; rfl
  have hdl := decD_length m P I B
  generalize decV l P I B = x at *
  generalize decD m P I B = dd at *
  generalize (decBad l P I B).getD 0 = fo at *
  generalize errV (decBad l P I B) = ev at *
  generalize errD (badD m P I B) = ed at *
  generalize decOk l I = ok at *
  have heq : ∀ W, (Op.equalIn 10000 23 (.agg x.c) (.agg x.c)).run Tryd.prog W = .ok true W := fun W => by
    have h := eqS x.I x.K x.S x.I x.K x.S W
    rwa [sameS_self] at h
  have hed : ∀ W, (Op.equalIn 10000 26 (.agg dd.c) (.agg dd.c)).run Tryd.prog W = .ok true W := fun W => eqD dd hdl W
  have HT := Lib.hid hT
  have HE := Lib.hid hE
  have HDC := Lib.hid hdc
  have HRD := Lib.hid hrd
  have HRC := Lib.hid hrc
  have HRR := Lib.hid hrr
  have HTO := Lib.hid hto
  have HTP := Lib.hid htp
  have HXZ := Lib.hid hxz
  have HF1 := Lib.hid hf1
  have HF2 := Lib.hid hf2
  have HF3 := Lib.hid hf3
  have HDL := Lib.hid hdl
  have HEQ := Lib.hid heq
  have HED := Lib.hid hed
  have HLL := Lib.hid hl
  have HLM := Lib.hid hm
  obtain ⟨i0, hi0, hz0, hs0, hb0⟩ := info_parts u64_info
  have HZ := Lib.hid hz0
  have HSZ := Lib.hid hs0
  have HBY := Lib.hid hb0
  have HIN := Lib.hid hi0
  have b0 := on_alloc w (.cells #[.int .i64 P, .int .i64 I, .int .i64 B] 28)
  have B0 := Lib.hid b0
  have G0 := Lib.hid (show Gb _ _ P I B from Ob.new w (.cells #[.int .i64 P, .int .i64 I, .int .i64 B] 28))
  have RL := Lib.hid (hrl.below b0)
  have RM := Lib.hid (hrm.below b0)
  have hd : decide (40 < (l.length : Int)) = false := by rw [decide_eq_false_iff_not]; omega
  have hd2 : decide (100 < (m.length : Int)) = false := by rw [decide_eq_false_iff_not]; omega
  clear hT hE hdc hrd hrc hrr hto htp hfv hxz hf1 hf2 hf3 hdl heq hed hl hm hi0 hz0 hs0 hb0 b0 hrl hrm hwl hwm hcl hcm
  go_enter Tryd.func4, Tryd.ntmps4
  go_upto_region 1 with (fail)
  generalize w.alloc (.cells #[.int .i64 P, .int .i64 I, .int .i64 B] 28) = W at *
  go_upto_region 4 with (first
    | (at_builtin; refine wpList_cloneC rfl (.const (.slice none 0 0)) (.tmp 28) 31 rfl 36 i0 Tryd.underlying31 HIN.out HZ.out HSZ.out HBY.out A l c rfl rfl RL.out (by have := HLL.out; omega) ?_; intro A1 c1 w1 hr1 hf1 hb1 _ hc1; have hm1 := RM.out.below hb1; have B1 := Lib.hid (B0.out.trans hb1); have G1 := Lib.hid (Ob.on G0.out hb1); have RL1 := Lib.hid (RL.out.below hb1); clear hb1 hf1)
    | (at_builtin; refine wpList_cloneC rfl (.const (.slice none 0 0)) (.tmp 30) 31 rfl 36 i0 Tryd.underlying31 HIN.out HZ.out HSZ.out HBY.out C m cm rfl rfl hm1 (by have := HLM.out; omega) ?_; intro A2 c2 w2 hr2 hf2 hb2 _ hc2))
  have B2 := Lib.hid (B1.out.trans hb2)
  have G2 := Lib.hid (show Gb _ _ P I B from Ob.on G1.out hb2)
  have RL2 := Lib.hid (RL1.out.below hb2)
  have RO2 := Lib.hid (hr1.below hb2)
  have RM2 := Lib.hid (hm1.below hb2)
  have RP2 := Lib.hid hr2
  clear hb2 hf2 hr2 hm1 hr1 B1 G1 RL1 B0 G0 RL RM hd hd2
  go_wp2_with (refine wpList_load_rowW rfl 28 (.tmp 5) rfl w.heap.size rfl 28 #[.int .i64 P, .int .i64 I, .int .i64 B] (0, 0) _ G2.out Tryd.underlying28 rfl (by kernel_rfl) ?_)
  refine (HDC.out A1 c1 w2 RO2.out hc1 (HT.out.below B2.out)).mono ?_
  rintro e w3 ⟨rfl, hb⟩
  replace hb := hb.trans (on_alloc w3 (.cells x.c 23))
  have B3 := Lib.hid (B2.out.trans hb)
  have G3 := Lib.hid (show Gb _ _ P I B from Ob.on G2.out hb)
  have RL3 := Lib.hid (RL2.out.below hb)
  have RO3 := Lib.hid (RO2.out.below hb)
  have RM3 := Lib.hid (RM2.out.below hb)
  have RP3 := Lib.hid (RP2.out.below hb)
  have Y3 := Lib.hid (show Sb _ _ x from Ob.new w3 (.cells x.c 23))
  clear hb B2 G2 RL2 RO2 RM2 RP2
  go_upto_region 5 with (fail)
  generalize w3.alloc (.cells x.c 23) = W3 at *
  generalize w3.heap.size = y1 at *
  clear w3
  go_wp2_with (refine wpList_load_rowW rfl 28 (.tmp 5) rfl w.heap.size rfl 28 #[.int .i64 P, .int .i64 I, .int .i64 B] (0, 0) _ G3.out Tryd.underlying28 rfl (by kernel_rfl) ?_)
  refine (HRD.out A2 c2 W3 RP3.out hc2 (HT.out.below B3.out) (HE.out.below B3.out)).mono ?_
  rintro e w4 ⟨rfl, hb⟩
  have S4 := Db.stored (w := w4) (d := dd)
  replace hb := hb.trans S4.2
  have R := Lib.hid (show Rdr w _ P I B A A1 C A2 l m y1 x w4.heap.size dd from ⟨B3.out.trans hb, Ob.on G3.out hb, RL3.out.below hb, RO3.out.below hb, RM3.out.below hb, RP3.out.below hb, Ob.on Y3.out hb, S4.1⟩)
  clear hb S4 B3 G3 RL3 RO3 RM3 RP3 Y3
  go_upto_region 6 with (refine wpList_store_row rfl 26 (.tmp 11) (.tmp 42) rfl w4.heap.size dd.c rfl rfl 26 _ (heap_alloc_new _ _) (Dbl.infoT HDL.out) (by rw [Dbl.size HDL.out]; rfl) (Dbl.one _) ?_)
  generalize (w4.alloc (.cells #[.int .i64 0, .int .i64 0, .int .u8 0, .string ⟨#[]⟩, .int .i64 0, .int .u8 0, .string ⟨#[]⟩, .int .i64 0, .int .u8 0, .string ⟨#[]⟩, .int .i64 0, .int .u8 0, .string ⟨#[]⟩, .int .i64 0, .int .u8 0, .string ⟨#[]⟩, .int .i64 0, .int .u8 0, .string ⟨#[]⟩, .int .i64 0, .int .u8 0, .string ⟨#[]⟩, .int .i64 0, .int .u8 0, .string ⟨#[]⟩, .int .i64 0, .int .u8 0, .string ⟨#[]⟩, .int .i64 0, .int .u8 0, .string ⟨#[]⟩] 26)).setRow w4.heap.size dd.c = W5 at *
  generalize w4.heap.size = b1 at *
  clear w4
  have F := Lib.hid (show Ob ((W5.alloc (.cells #[.int .i64 0, .int .i64 2] 54)).alloc (.cells #[.int .i64 0, .int .u8 0, .string ⟨#[]⟩] 23)) W5.heap.size (.cells #[.int .i64 0, .int .i64 2] 54 (0, 0)) from (Ob.new W5 _).alloc _)
  have Z : Hid (Ob ((W5.alloc (.cells #[.int .i64 0, .int .i64 2] 54)).alloc (.cells #[.int .i64 0, .int .u8 0, .string ⟨#[]⟩] 23)) (W5.heap.size + 1) (.cells zS.c 23 (0, 0))) := Lib.hid (by
    have h := Ob.new (W5.alloc (.cells #[.int .i64 0, .int .i64 2] 54)) (.cells #[.int .i64 0, .int .u8 0, .string ⟨#[]⟩] 23)
    rw [World.size_alloc] at h
    exact h)
  have O := Lib.hid (on_two W5 (.cells #[.int .i64 0, .int .i64 2] 54) (.cells #[.int .i64 0, .int .u8 0, .string ⟨#[]⟩] 23))
  have R0 := R
  replace R := Lib.hid (R0.out.on' O.out)
  go_upto_region 8 with (fail)
  generalize (W5.alloc (.cells #[.int .i64 0, .int .i64 2] 54)).alloc (.cells #[.int .i64 0, .int .u8 0, .string ⟨#[]⟩] 23) = V at *
  go_wp2_with (refine wpList_load_rowW rfl 28 (.tmp 5) rfl w.heap.size rfl 28 #[.int .i64 P, .int .i64 I, .int .i64 B] (0, 0) _ R.out.geo Tryd.underlying28 rfl (by kernel_rfl) ?_)
  by_cases hg : GOK P I B
  · refine (may_yes P I B _ hg).mono ?_
    rintro e v1 ⟨rfl, hb⟩
    replace R := Lib.hid (R.out.on' hb)
    replace F := Lib.hid (Ob.on F.out hb)
    replace Z := Lib.hid (Ob.on Z.out hb)
    replace O := Lib.hid (O.out.trans hb)
    clear hb
    have HG := Lib.hid hg
    clear hg
    go_wp2_with (refine wpList_load_rowW rfl 28 (.tmp 5) rfl w.heap.size rfl 28 #[.int .i64 P, .int .i64 I, .int .i64 B] (0, 0) _ R.out.geo Tryd.underlying28 rfl (by kernel_rfl) ?_)
    refine (HRC.out HG.out _ R.out.r0).mono ?_
    rintro e v2 ⟨rfl, hb⟩
    replace hb := hb.trans (on_alloc v2 (.cells x.c 23))
    have N := Lib.hid (show Sb _ _ x from Ob.new v2 (.cells x.c 23))
    replace F := Lib.hid (Ob.on F.out hb)
    replace Z := Lib.hid (Ob.on Z.out hb)
    replace O := Lib.hid (O.out.trans hb)
    clear hb R
    go_upto_region 10 with (fail)
    generalize v2.alloc (.cells x.c 23) = V3 at *
    generalize v2.heap.size = n1 at *
    clear v1 v2
    go_upto_region 11 with (first
      | (refine wpList_load_rowW rfl 23 (.tmp 15) rfl n1 rfl 23 x.c (0, 0) _ N.out Tryd.underlying23 rfl (by kernel_rfl) ?_)
      | (refine wpList_store_row rfl 23 (.tmp 14) (.tmp 54) rfl (W5.heap.size + 1) x.c rfl rfl 23 _ Z.out (by kernel_rfl) rfl (by rw [← Array.all_toList]; rfl) ?_))
    have F4 := Lib.hid (show Ob (V3.setRow (W5.heap.size + 1) x.c) W5.heap.size _ from (setRow_other V3 (W5.heap.size + 1) W5.heap.size x.c (by omega)).trans F.out)
    have Z4 := Lib.hid (show Sb (V3.setRow (W5.heap.size + 1) x.c) (W5.heap.size + 1) x from setRow_heap V3 _ _ x.c _ _ Z.out)
    have O4 := Lib.hid (show On W5 (V3.setRow (W5.heap.size + 1) x.c) from below_setRow O.out (Nat.le_succ _) _)
    clear F Z O N
    generalize V3.setRow (W5.heap.size + 1) x.c = V4 at *
    clear V3
    obtain ⟨c0, c1'⟩ := two_cells F4.out
    have fz := Ob.frozen F4.out 1
    have hlt := Ob.lt F4.out
    have F5 := Lib.hid (Fb.set1 F4.out 7)
    have Z5 := Lib.hid (show Sb (V4.setCell ⟨W5.heap.size, 1, none⟩ (.int .i64 7)) (W5.heap.size + 1) x from Ob.setCell Z4.out _ _ (by simp))
    have O5 := Lib.hid (show On W5 (V4.setCell ⟨W5.heap.size, 1, none⟩ (.int .i64 7)) from Below.setCell O4.out (Nat.le_refl _) _)
    go_upto_region 12 with (fail)
    clear c0 c1' fz hlt F4 Z4 O4
    generalize V4.setCell ⟨W5.heap.size, 1, none⟩ (.int .i64 7) = V5 at *
    clear V4
    cases ok with
    | true =>
      obtain rfl := HF2.out HG.out (by trivial)
      obtain ⟨c0, c1'⟩ := two_cells F5.out
      have fz := Ob.frozen F5.out 1
      have hlt := Ob.lt F5.out
      have F := Lib.hid (Fb.set1 F5.out 0)
      have Z := Lib.hid (show Sb (V5.setCell ⟨W5.heap.size, 1, none⟩ (.int .i64 0)) (W5.heap.size + 1) x from Ob.setCell Z5.out _ _ (by simp))
      have O := Lib.hid (show On W5 (V5.setCell ⟨W5.heap.size, 1, none⟩ (.int .i64 0)) from Below.setCell O5.out (Nat.le_refl _) _)
      go_upto_region 14 with (fail)
      clear c0 c1' fz hlt F5 Z5 O5
      generalize V5.setCell ⟨W5.heap.size, 1, none⟩ (.int .i64 0) = V6 at *
      have R := Lib.hid (R0.out.on' O.out)
      clear V5
      go_wp2_with (refine wpList_load_rowW rfl 28 (.tmp 5) rfl w.heap.size rfl 28 #[.int .i64 P, .int .i64 I, .int .i64 B] (0, 0) _ R.out.geo Tryd.underlying28 rfl (by kernel_rfl) ?_)
      refine (HRR.out _ (R.out.m0) ).mono ?_
      rintro e u1 ⟨rfl, hb⟩
      replace R := Lib.hid (R.out.on' hb)
      replace F := Lib.hid (Ob.on F.out hb)
      replace Z := Lib.hid (Ob.on Z.out hb)
      clear hb
      have S2 := Lib.hid (Db.stored2 (w := u1) (d := dd) (k := f0) (n := f1))
      go_upto_region 15 with (first
        | (refine wpList_store_row rfl 26 (.tmp 17) (.tmp 62) rfl u1.heap.size dd.c rfl rfl 26 _ ((Ob.new u1 _).alloc _) (Dbl.infoT HDL.out) (by rw [Dbl.size HDL.out]; rfl) (Dbl.one _) ?_)
        | (refine wpList_store_row rfl 54 (.tmp 18) (.tmp 63) rfl (u1.heap.size + 1) #[.int .i64 f0, .int .i64 f1] rfl rfl 54 _ S2.out.2.2.1 (by kernel_rfl) rfl (two_one _ _) ?_))
      obtain ⟨q1, q2, _, q3⟩ := S2.out
      clear S2
      generalize hU : (((u1.alloc (.cells #[.int .i64 0, .int .i64 0, .int .u8 0, .string ⟨#[]⟩, .int .i64 0, .int .u8 0, .string ⟨#[]⟩, .int .i64 0, .int .u8 0, .string ⟨#[]⟩, .int .i64 0, .int .u8 0, .string ⟨#[]⟩, .int .i64 0, .int .u8 0, .string ⟨#[]⟩, .int .i64 0, .int .u8 0, .string ⟨#[]⟩, .int .i64 0, .int .u8 0, .string ⟨#[]⟩, .int .i64 0, .int .u8 0, .string ⟨#[]⟩, .int .i64 0, .int .u8 0, .string ⟨#[]⟩, .int .i64 0, .int .u8 0, .string ⟨#[]⟩] 26)).alloc (.cells #[.int .i64 0, .int .i64 0] 54)).setRow u1.heap.size dd.c).setRow (u1.heap.size + 1) #[.int .i64 f0, .int .i64 f1] = U at *
      clear hU
      replace R := Lib.hid (R.out.on' q3)
      replace F := Lib.hid (Ob.on F.out q3)
      replace Z := Lib.hid (Ob.on Z.out q3)
      have D2 := Lib.hid (show Db U u1.heap.size dd from q1)
      have F2 := Lib.hid q2
      clear q1 q2 q3
      have hq := HEQ.out
      go_wp2_with (first | (refine wpList_load_rowW rfl 23 (.tmp 9) rfl y1 rfl 23 x.c (0, 0) _ R.out.slo Tryd.underlying23 rfl (by kernel_rfl) ?_) | (refine wpList_load_rowW rfl 23 (.tmp 14) rfl (W5.heap.size + 1) rfl 23 x.c (0, 0) _ Z.out Tryd.underlying23 rfl (by kernel_rfl) ?_) | (refine wpList_load_rowW rfl 54 (.tmp 13) rfl W5.heap.size rfl 54 _ (0, 0) _ F.out Tryd.underlying54 rfl (by kernel_rfl) ?_))
      clear hq
      refine (HTO.out _ (HE.out.below R.out.on)).mono ?_
      rintro e u2 ⟨rfl, hb⟩
      replace R := Lib.hid (R.out.on' hb)
      replace D2 := Lib.hid (show Db u2 u1.heap.size dd from Ob.on D2.out hb)
      replace F2 := Lib.hid (Ob.on F2.out hb)
      clear hb
      have hq := HED.out
      go_wp2_with (first | (refine wpList_load_rowW rfl 26 (.tmp 11) rfl b1 rfl 26 dd.c (0, 0) _ R.out.blk Tryd.underlying26 rfl (Dbl.infoT HDL.out) ?_) | (refine wpList_load_rowW rfl 26 (.tmp 17) rfl u1.heap.size rfl 26 dd.c (0, 0) _ D2.out Tryd.underlying26 rfl (Dbl.infoT HDL.out) ?_) | (refine wpList_load_rowW rfl 54 (.tmp 18) rfl (u1.heap.size + 1) rfl 54 #[.int .i64 f0, .int .i64 f1] (0, 0) _ F2.out Tryd.underlying54 rfl (by kernel_rfl) ?_))
      clear hq
      refine (HTP.out _ (HE.out.below R.out.on)).mono ?_
      rintro e u3 ⟨rfl, hb⟩
      replace R := Lib.hid (R.out.on' hb)
      clear hb D2 F2 F Z
      have hS := same_calls A1 A l l c1 c u3 R.out.r1 R.out.r0 (by have := HLL.out; omega) (by have := HLL.out; omega)
      rw [sameV_self] at hS
      have HS := Lib.hid hS
      clear hS
      go_wp2_with (fail)
      refine HS.out.mono ?_
      rintro e u4 ⟨rfl, m4, rfl⟩
      replace R := Lib.hid (R.out.on' (on_drewN u3 m4))
      clear HS
      generalize u3.drewN m4 = u4 at *
      have hS := same_calls A2 C m m c2 cm u4 R.out.m1 R.out.m0 (by have := HLM.out; omega) (by have := HLM.out; omega)
      rw [sameV_self] at hS
      have HS := Lib.hid hS
      clear hS
      go_wp2_with (fail)
      refine HS.out.mono ?_
      rintro e u5 ⟨rfl, m5, rfl⟩
      have b5 := R.out.on.trans (on_drewN u4 m5)
      clear HS R
      go_wp2_with (fail)
      refine (alive_calls _ (HT.out.below b5) (HE.out.below b5)).mono ?_
      rintro e u6 ⟨rfl, hb⟩
      have b6 := b5.trans hb
      clear b5 hb
      go_wp2_with (fail)
      go_ret
      exact ⟨rfl, b6⟩
    | false =>
      obtain rfl := HF3.out HG.out (by trivial)
      have F := F5
      have Z := Z5
      have O := O5
      clear F5 Z5 O5
      go_upto_region 14 with (fail)
      have R := Lib.hid (R0.out.on' O.out)
      go_wp2_with (refine wpList_load_rowW rfl 28 (.tmp 5) rfl w.heap.size rfl 28 #[.int .i64 P, .int .i64 I, .int .i64 B] (0, 0) _ R.out.geo Tryd.underlying28 rfl (by kernel_rfl) ?_)
      refine (HRR.out _ (R.out.m0) ).mono ?_
      rintro e u1 ⟨rfl, hb⟩
      replace R := Lib.hid (R.out.on' hb)
      replace F := Lib.hid (Ob.on F.out hb)
      replace Z := Lib.hid (Ob.on Z.out hb)
      clear hb
      have S2 := Lib.hid (Db.stored2 (w := u1) (d := dd) (k := f0) (n := f1))
      go_upto_region 15 with (first
        | (refine wpList_store_row rfl 26 (.tmp 17) (.tmp 62) rfl u1.heap.size dd.c rfl rfl 26 _ ((Ob.new u1 _).alloc _) (Dbl.infoT HDL.out) (by rw [Dbl.size HDL.out]; rfl) (Dbl.one _) ?_)
        | (refine wpList_store_row rfl 54 (.tmp 18) (.tmp 63) rfl (u1.heap.size + 1) #[.int .i64 f0, .int .i64 f1] rfl rfl 54 _ S2.out.2.2.1 (by kernel_rfl) rfl (two_one _ _) ?_))
      obtain ⟨q1, q2, _, q3⟩ := S2.out
      clear S2
      generalize hU : (((u1.alloc (.cells #[.int .i64 0, .int .i64 0, .int .u8 0, .string ⟨#[]⟩, .int .i64 0, .int .u8 0, .string ⟨#[]⟩, .int .i64 0, .int .u8 0, .string ⟨#[]⟩, .int .i64 0, .int .u8 0, .string ⟨#[]⟩, .int .i64 0, .int .u8 0, .string ⟨#[]⟩, .int .i64 0, .int .u8 0, .string ⟨#[]⟩, .int .i64 0, .int .u8 0, .string ⟨#[]⟩, .int .i64 0, .int .u8 0, .string ⟨#[]⟩, .int .i64 0, .int .u8 0, .string ⟨#[]⟩, .int .i64 0, .int .u8 0, .string ⟨#[]⟩] 26)).alloc (.cells #[.int .i64 0, .int .i64 0] 54)).setRow u1.heap.size dd.c).setRow (u1.heap.size + 1) #[.int .i64 f0, .int .i64 f1] = U at *
      clear hU
      replace R := Lib.hid (R.out.on' q3)
      replace F := Lib.hid (Ob.on F.out q3)
      replace Z := Lib.hid (Ob.on Z.out q3)
      have D2 := Lib.hid (show Db U u1.heap.size dd from q1)
      have F2 := Lib.hid q2
      clear q1 q2 q3
      have hq := HEQ.out
      go_wp2_with (first | (refine wpList_load_rowW rfl 23 (.tmp 9) rfl y1 rfl 23 x.c (0, 0) _ R.out.slo Tryd.underlying23 rfl (by kernel_rfl) ?_) | (refine wpList_load_rowW rfl 23 (.tmp 14) rfl (W5.heap.size + 1) rfl 23 x.c (0, 0) _ Z.out Tryd.underlying23 rfl (by kernel_rfl) ?_) | (refine wpList_load_rowW rfl 54 (.tmp 13) rfl W5.heap.size rfl 54 _ (0, 0) _ F.out Tryd.underlying54 rfl (by kernel_rfl) ?_))
      clear hq
      refine (HTO.out _ (HE.out.below R.out.on)).mono ?_
      rintro e u2 ⟨rfl, hb⟩
      replace R := Lib.hid (R.out.on' hb)
      replace D2 := Lib.hid (show Db u2 u1.heap.size dd from Ob.on D2.out hb)
      replace F2 := Lib.hid (Ob.on F2.out hb)
      clear hb
      have hq := HED.out
      go_wp2_with (first | (refine wpList_load_rowW rfl 26 (.tmp 11) rfl b1 rfl 26 dd.c (0, 0) _ R.out.blk Tryd.underlying26 rfl (Dbl.infoT HDL.out) ?_) | (refine wpList_load_rowW rfl 26 (.tmp 17) rfl u1.heap.size rfl 26 dd.c (0, 0) _ D2.out Tryd.underlying26 rfl (Dbl.infoT HDL.out) ?_) | (refine wpList_load_rowW rfl 54 (.tmp 18) rfl (u1.heap.size + 1) rfl 54 #[.int .i64 f0, .int .i64 f1] (0, 0) _ F2.out Tryd.underlying54 rfl (by kernel_rfl) ?_))
      clear hq
      refine (HTP.out _ (HE.out.below R.out.on)).mono ?_
      rintro e u3 ⟨rfl, hb⟩
      replace R := Lib.hid (R.out.on' hb)
      clear hb D2 F2 F Z
      have hS := same_calls A1 A l l c1 c u3 R.out.r1 R.out.r0 (by have := HLL.out; omega) (by have := HLL.out; omega)
      rw [sameV_self] at hS
      have HS := Lib.hid hS
      clear hS
      go_wp2_with (fail)
      refine HS.out.mono ?_
      rintro e u4 ⟨rfl, m4, rfl⟩
      replace R := Lib.hid (R.out.on' (on_drewN u3 m4))
      clear HS
      generalize u3.drewN m4 = u4 at *
      have hS := same_calls A2 C m m c2 cm u4 R.out.m1 R.out.m0 (by have := HLM.out; omega) (by have := HLM.out; omega)
      rw [sameV_self] at hS
      have HS := Lib.hid hS
      clear hS
      go_wp2_with (fail)
      refine HS.out.mono ?_
      rintro e u5 ⟨rfl, m5, rfl⟩
      have b5 := R.out.on.trans (on_drewN u4 m5)
      clear HS R
      go_wp2_with (fail)
      refine (alive_calls _ (HT.out.below b5) (HE.out.below b5)).mono ?_
      rintro e u6 ⟨rfl, hb⟩
      have b6 := b5.trans hb
      clear b5 hb
      go_wp2_with (fail)
      go_ret
      exact ⟨rfl, b6⟩
  · refine (may_no P I B _ hg).mono ?_
    rintro e v1 ⟨rfl, hb⟩
    obtain rfl := HXZ.out hg
    obtain rfl := HF1.out hg
    replace R := Lib.hid (R.out.on' hb)
    replace F := Lib.hid (Ob.on F.out hb)
    replace Z := Lib.hid (Ob.on Z.out hb)
    clear hb O hg
    go_upto_region 14 with (fail)
    go_wp2_with (refine wpList_load_rowW rfl 28 (.tmp 5) rfl w.heap.size rfl 28 #[.int .i64 P, .int .i64 I, .int .i64 B] (0, 0) _ R.out.geo Tryd.underlying28 rfl (by kernel_rfl) ?_)
    refine (HRR.out _ (R.out.m0) ).mono ?_
    rintro e u1 ⟨rfl, hb⟩
    replace R := Lib.hid (R.out.on' hb)
    replace F := Lib.hid (Ob.on F.out hb)
    replace Z := Lib.hid (Ob.on Z.out hb)
    clear hb
    have S2 := Lib.hid (Db.stored2 (w := u1) (d := dd) (k := f0) (n := f1))
    go_upto_region 15 with (first
      | (refine wpList_store_row rfl 26 (.tmp 17) (.tmp 62) rfl u1.heap.size dd.c rfl rfl 26 _ ((Ob.new u1 _).alloc _) (Dbl.infoT HDL.out) (by rw [Dbl.size HDL.out]; rfl) (Dbl.one _) ?_)
      | (refine wpList_store_row rfl 54 (.tmp 18) (.tmp 63) rfl (u1.heap.size + 1) #[.int .i64 f0, .int .i64 f1] rfl rfl 54 _ S2.out.2.2.1 (by kernel_rfl) rfl (two_one _ _) ?_))
    obtain ⟨q1, q2, _, q3⟩ := S2.out
    clear S2
    generalize hU : (((u1.alloc (.cells #[.int .i64 0, .int .i64 0, .int .u8 0, .string ⟨#[]⟩, .int .i64 0, .int .u8 0, .string ⟨#[]⟩, .int .i64 0, .int .u8 0, .string ⟨#[]⟩, .int .i64 0, .int .u8 0, .string ⟨#[]⟩, .int .i64 0, .int .u8 0, .string ⟨#[]⟩, .int .i64 0, .int .u8 0, .string ⟨#[]⟩, .int .i64 0, .int .u8 0, .string ⟨#[]⟩, .int .i64 0, .int .u8 0, .string ⟨#[]⟩, .int .i64 0, .int .u8 0, .string ⟨#[]⟩, .int .i64 0, .int .u8 0, .string ⟨#[]⟩] 26)).alloc (.cells #[.int .i64 0, .int .i64 0] 54)).setRow u1.heap.size dd.c).setRow (u1.heap.size + 1) #[.int .i64 f0, .int .i64 f1] = U at *
    clear hU
    replace R := Lib.hid (R.out.on' q3)
    replace F := Lib.hid (Ob.on F.out q3)
    replace Z := Lib.hid (Ob.on Z.out q3)
    have D2 := Lib.hid (show Db U u1.heap.size dd from q1)
    have F2 := Lib.hid q2
    clear q1 q2 q3
    have hq := HEQ.out
    go_wp2_with (first | (refine wpList_load_rowW rfl 23 (.tmp 9) rfl y1 rfl 23 zS.c (0, 0) _ R.out.slo Tryd.underlying23 rfl (by kernel_rfl) ?_) | (refine wpList_load_rowW rfl 23 (.tmp 14) rfl (W5.heap.size + 1) rfl 23 zS.c (0, 0) _ Z.out Tryd.underlying23 rfl (by kernel_rfl) ?_) | (refine wpList_load_rowW rfl 54 (.tmp 13) rfl W5.heap.size rfl 54 _ (0, 0) _ F.out Tryd.underlying54 rfl (by kernel_rfl) ?_))
    clear hq
    refine (HTO.out _ (HE.out.below R.out.on)).mono ?_
    rintro e u2 ⟨rfl, hb⟩
    replace R := Lib.hid (R.out.on' hb)
    replace D2 := Lib.hid (show Db u2 u1.heap.size dd from Ob.on D2.out hb)
    replace F2 := Lib.hid (Ob.on F2.out hb)
    clear hb
    have hq := HED.out
    go_wp2_with (first | (refine wpList_load_rowW rfl 26 (.tmp 11) rfl b1 rfl 26 dd.c (0, 0) _ R.out.blk Tryd.underlying26 rfl (Dbl.infoT HDL.out) ?_) | (refine wpList_load_rowW rfl 26 (.tmp 17) rfl u1.heap.size rfl 26 dd.c (0, 0) _ D2.out Tryd.underlying26 rfl (Dbl.infoT HDL.out) ?_) | (refine wpList_load_rowW rfl 54 (.tmp 18) rfl (u1.heap.size + 1) rfl 54 #[.int .i64 f0, .int .i64 f1] (0, 0) _ F2.out Tryd.underlying54 rfl (by kernel_rfl) ?_))
    clear hq
    refine (HTP.out _ (HE.out.below R.out.on)).mono ?_
    rintro e u3 ⟨rfl, hb⟩
    replace R := Lib.hid (R.out.on' hb)
    clear hb D2 F2 F Z
    have hS := same_calls A1 A l l c1 c u3 R.out.r1 R.out.r0 (by have := HLL.out; omega) (by have := HLL.out; omega)
    rw [sameV_self] at hS
    have HS := Lib.hid hS
    clear hS
    go_wp2_with (fail)
    refine HS.out.mono ?_
    rintro e u4 ⟨rfl, m4, rfl⟩
    replace R := Lib.hid (R.out.on' (on_drewN u3 m4))
    clear HS
    generalize u3.drewN m4 = u4 at *
    have hS := same_calls A2 C m m c2 cm u4 R.out.m1 R.out.m0 (by have := HLM.out; omega) (by have := HLM.out; omega)
    rw [sameV_self] at hS
    have HS := Lib.hid hS
    clear hS
    go_wp2_with (fail)
    refine HS.out.mono ?_
    rintro e u5 ⟨rfl, m5, rfl⟩
    have b5 := R.out.on.trans (on_drewN u4 m5)
    clear HS R
    go_wp2_with (fail)
    refine (alive_calls _ (HT.out.below b5) (HE.out.below b5)).mono ?_
    rintro e u6 ⟨rfl, hb⟩
    have b6 := b5.trans hb
    clear b5 hb
    go_wp2_with (fail)
    go_ret
    exact ⟨rfl, b6⟩
theorem ereads_calls (A C : Option Addr) (l m : List Nat) (c cm : Nat) (P I B : Int) (w : World) (hrl : Row w A l) (hrm : Row w C m) (hwl : Wd l) (hwm : Wd m) (hcl : l.length ≤ c) (hcm : m.length ≤ cm) (hT : TabAt w) (hE : ErrAt w) :
    Calls Tryd.prog 4 #[.slice A l.length c, .slice C m.length cm, gv P I B] w fun e w' => e = .returned (.bool true) ∧ On w w' := by
  by_cases h : 40 < l.length ∨ 100 < m.length
  · exact ereads_long A C l m c cm P I B w h hT hE
  · exact ereads_go A C l m c cm P I B w hrl hrm hwl hwm hcl hcm (by omega) (by omega) hT hE
end Go.Proofs.YtipghcpodhokbaaDoor
