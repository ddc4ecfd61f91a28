/- What Decode hands back. -/
import Derived.Test.YtlejmpinfbmccaaGreatDoorDec
set_option linter.unusedSimpArgs false
set_option linter.unusedVariables false
set_option linter.unusedSimpArgs false
set_option linter.unusedVariables false
namespace Go.Proofs.YtlejmpinfbmccaaGreatDoor
open Go.RowKit SumMath WordMath
theorem decoded_calls (A : Option Addr) (l : List Nat) (c : Nat) (n : Sn) (w : World) (hr : Row w A l) (hl : Wd l) (hcap : l.length ≤ c) (hN : SnAt w n) (hT : TabAt w) :
    Calls Tryz.prog 48 #[.slice A l.length c] w fun e w' => ∃ p, e = .returned (.tuple #[(attA l).v p, whyO n (badA l)]) ∧ ALies w' (attA l) p ∧ AFrom w.heap.size p ∧ Below w.heap.size w w' := by
  cases hm : mkB l
  · exact decoded_0 A l c n w hr hl hN hm
  · exact decoded_1 A l c n w hr hl hcap hN hT hm
theorem attA_bad {l : List Nat} {k : Nat} (h : badA l = some k) : attA l = atZ := by unfold attA; rw [h]
set_option maxRecDepth 100000 in
set_option maxHeartbeats 4000000 in
theorem decode_calls (A : Option Addr) (l : List Nat) (c : Nat) (n : Sn) (w : World) (hr : Row w A l) (hl : Wd l) (hcap : l.length ≤ c) (hN : SnAt w n) (hT : TabAt w) :
    Calls Tryz.prog 23 #[.slice A l.length c] w fun e w' => ∃ p, e = .returned (.tuple #[(attA l).v p, errVA n (badA l)]) ∧ ALies w' (attA l) p ∧ AFrom w.heap.size p ∧ Below w.heap.size w w' := by
  obtain ⟨V, hV⟩ : ∃ V, V = w.alloc (.cells zA 28) := ⟨_, rfl⟩
  have HZ : Hid (V.heap[w.heap.size]? = some (.cells zA 28 (0, 0))) := Lib.hid (by rw [hV]; exact heap_alloc_new w _)
  have hb : Below w.heap.size w V := by rw [hV]; exact (Below.refl _ _).alloc (Nat.le_refl _) _
  have HB := Lib.hid hb
  have HC := Lib.hid (decoded_calls A l c n V (hr.below hb) hl hcap (hN.below hb) (hT.below hb))
  clear hr hl hcap hN hT hb
  go_enter Tryz.func23, Tryz.ntmps23
  go_upto_region 1 with (fail)
  rw [← hV]
  clear hV
  go_wp2_with (fail)
  refine HC.out.mono ?_
  clear HC
  rintro e w1 ⟨p, rfl, hal, haf, hb1⟩
  have HAF := Lib.hid haf
  have hVs := lt_of_cells HZ.out
  clear haf
  have HZ1 := Lib.hid (cells_on HZ.out hb1)
  have HB1 := Lib.hid (HB.out.trans (hb1.mono HB.out.size))
  obtain ⟨x, hx⟩ : ∃ x, attA l = x := ⟨_, rfl⟩
  have HX := Lib.hid hx
  rw [hx] at hal ⊢
  have hone : (x.c p).all (·.oneCell') = true := by rw [← Array.all_toList]; rfl
  have hsz2 : (Tryz.prog.info? 28).map (·.size) = some (x.c p).size := attr_size
  have hold : (zA : Array Value).size = (x.c p).size := rfl
  have hz := heap_alloc_new w1 (.cells zA 28)
  have HZn := Lib.hid hz
  obtain ⟨U, hU⟩ : ∃ U, U = (w1.alloc (.cells zA 28)).setRow w1.heap.size (x.c p) := ⟨_, rfl⟩
  have bu : Below w1.heap.size w1 U := by rw [hU]; exact below_setRow ((Below.refl _ _).alloc (Nat.le_refl _) _) (Nat.le_refl _) _
  have HZ2 := Lib.hid (cells_on HZ1.out bu)
  have HB2 := Lib.hid (HB1.out.trans (bu.mono HB1.out.size))
  have hal2 := hal.below bu
  have hself : U.setRow w.heap.size zA = U := setRow_self _ _ _ _ _ HZ2.out
  have HLZ : Hid (ALies (U.setRow w.heap.size (x.c p)) x p ∨ True) := Lib.hid (.inr trivial)
  obtain ⟨C, hC⟩ : ∃ C, C = x.c p := ⟨_, rfl⟩
  have HXC : Hid (U.heap[w1.heap.size]? = some (.cells C 28 (0, 0))) := Lib.hid (by rw [hU, hC]; exact setRow_heap _ _ _ _ _ _ hz)
  rw [← hC] at hone hsz2 hold hU
  have HCC := Lib.hid hC
  rw [show x.v p = .agg C by rw [hC]]
  have hlt := HB.out
  clear hz bu hal hC hb1 HZ HB HLZ hlt
  go_upto_region 2 with (refine wpList_store_rowTo rfl 28 (.tmp 4) (.tmp 9) rfl rfl w1.heap.size C rfl rfl 28 _ HZn.out hsz2 hold hone ?_; rw [← hU])
  clear hU HZn
  cases hbad : badA l with
  | none =>
    have HQ : Hid ((U.setRow w.heap.size C).heap[w.heap.size]? = some (.cells C 28 (0, 0))) := Lib.hid (setRow_heap _ _ _ _ _ _ HZ2.out)
    have HBQ : Hid (Below w.heap.size w (U.setRow w.heap.size C)) := Lib.hid (below_setRow HB2.out (Nat.le_refl _) _)
    have HL2 := Lib.hid hal2
    have HBA := Lib.hid hbad
    clear hbad hal2 hself
    unfold whyO
    go_wp2_with (first
      | (refine wpList_load_row rfl 28 (.tmp 4) rfl w1.heap.size rfl 28 C (0, 0) _ HXC.out Tryz.underlying28 rfl hsz2 ?_)
      | (refine wpList_store_rowTo rfl 28 (.tmp 2) (.tmp 17) rfl rfl w.heap.size C rfl rfl 28 _ HZ2.out hsz2 hold hone ?_))
    exact bodyPost_ret (v := .tuple #[.agg C, .nilIface]) (results_row_slot rfl _ _ w.heap.size 28 _ (0, 0) _ rfl HQ.out Tryz.underlying28 rfl hsz2 .nilIface rfl) rfl ⟨p, by rw [HX.out, HCC.out, HBA.out]; rfl, by rw [HX.out]; exact HL2.out.keep (Only.setRow (F := fun j => j = w.heap.size) (Only.refl _ _) rfl _) HAF.out (fun i hi => by omega), HAF.out.mono (by omega), HBQ.out⟩
  | some k =>
    have HXZ : Hid (attA l = atZ) := Lib.hid (attA_bad hbad)
    have HZO := zA_one
    have HBA := Lib.hid hbad
    clear hbad hal2
    obtain ⟨v, hv⟩ : ∃ v, whyV n k = v := ⟨_, rfl⟩
    have HVV : Hid (errVA n (some k) = .iface 78 (.agg #[v])) := Lib.hid (by rw [← hv]; rfl)
    have hnn : v ≠ .nilIface := by rw [← hv]; intro h; cases h
    have hvv : ∃ a, v = .iface 172 (.pointer (some a)) := ⟨_, hv.symm⟩
    obtain ⟨a, rfl⟩ := hvv
    rw [show whyO n (some k) = .iface 172 (.pointer (some a)) from hv]
    clear hv hnn
    go_wp2_with (first
      | (refine wpList_buildTo rfl 28 #[] rfl (some 13) rfl zA (by simpa using built_zA) ?_)
      | (refine wpList_store_rowTo rfl 28 (.tmp 2) (.tmp 13) rfl rfl w.heap.size zA rfl rfl 28 _ HZ2.out attr_size rfl HZO ?_; rw [hself]))
    exact bodyPost_ret (v := .tuple #[.agg zA, .iface 78 (.agg #[.iface 172 (.pointer (some a))])]) (results_row_slot rfl _ _ w.heap.size 28 _ (0, 0) _ rfl HZ2.out Tryz.underlying28 rfl attr_size _ rfl) rfl ⟨alieZ, by rw [HBA.out, HXZ.out, HVV.out]; rfl, by rw [HXZ.out]; exact alies_Z _, afrom_Z _, HB2.out⟩
end Go.Proofs.YtlejmpinfbmccaaGreatDoor
