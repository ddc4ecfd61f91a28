/- The chapter's example: it holds. -/
import Derived.Test.YtejhodjbgablaaaGt
set_option linter.unusedSimpArgs false
set_option linter.unusedVariables false
namespace Go.Proofs.Ytejhodjbgablaaa
open Go.RowKit
theorem clies_nil (w : World) (u g : Nat) (h : Bool) : CLies w ⟨u, g, [], h⟩ none := ⟨Cel.nil _ _, by simp⟩
set_option maxRecDepth 100000 in
set_option maxHeartbeats 8000000 in
theorem alive_calls (w : World) : Calls Try.prog 9 #[] w fun e w' => e = .returned (.bool true) ∧ Below w.heap.size w w' := by
  have m0 : Hid (∀ (W : World) (p : ALie), ALies W sX p → Calls Try.prog 16 #[.agg #[.int .u16 1, .int .u16 99, .slice none 0 0, .bool false], sX.v p, .bool false] W fun e w' => e = .returned (.int .u8 6) ∧ Below W.heap.size W w') := Lib.hid (fun W p hl => by
    have e : mostG (⟨1, 99, [], false⟩ : Cr) sX false = 6 := by decide +kernel
    have h := most_calls ⟨1, 99, [], false⟩ none 0 sX p false W (clies_nil _ _ _ _) hl sX_sm
    rw [e] at h
    exact h)
  have m1 : Hid (∀ (W : World) (p : ALie), ALies W sX p → Calls Try.prog 16 #[.agg #[.int .u16 2, .int .u16 99, .slice none 0 0, .bool false], sX.v p, .bool false] W fun e w' => e = .returned (.int .u8 4) ∧ Below W.heap.size W w') := Lib.hid (fun W p hl => by
    have e : mostG (⟨2, 99, [], false⟩ : Cr) sX false = 4 := by decide +kernel
    have h := most_calls ⟨2, 99, [], false⟩ none 0 sX p false W (clies_nil _ _ _ _) hl sX_sm
    rw [e] at h
    exact h)
  have m2 : Hid (∀ (W : World) (p : ALie), ALies W sX p → Calls Try.prog 16 #[.agg #[.int .u16 3, .int .u16 10, .slice none 0 0, .bool false], sX.v p, .bool false] W fun e w' => e = .returned (.int .u8 4) ∧ Below W.heap.size W w') := Lib.hid (fun W p hl => by
    have e : mostG (⟨3, 10, [], false⟩ : Cr) sX false = 4 := by decide +kernel
    have h := most_calls ⟨3, 10, [], false⟩ none 0 sX p false W (clies_nil _ _ _ _) hl sX_sm
    rw [e] at h
    exact h)
  have m3 : Hid (∀ (W : World) (p : ALie) (A : Option Addr) (_ : Cel W A (hv [20])), ALies W sX p → Calls Try.prog 16 #[.agg #[.int .u16 3, .int .u16 99, .slice A 1 1, .bool false], sX.v p, .bool false] W fun e w' => e = .returned (.int .u8 4) ∧ Below W.heap.size W w') := Lib.hid (fun W p A hA hl => by
    have e : mostG (⟨3, 99, [20], false⟩ : Cr) sX false = 4 := by decide +kernel
    have h := most_calls ⟨3, 99, [20], false⟩ A 1 sX p false W (⟨hA, by simp⟩) hl sX_sm
    rw [e] at h
    exact h)
  have m4 : Hid (∀ (W : World) (p : ALie), ALies W sX p → Calls Try.prog 16 #[.agg #[.int .u16 3, .int .u16 99, .slice none 0 0, .bool false], sX.v p, .bool false] W fun e w' => e = .returned (.int .u8 0) ∧ Below W.heap.size W w') := Lib.hid (fun W p hl => by
    have e : mostG (⟨3, 99, [], false⟩ : Cr) sX false = 0 := by decide +kernel
    have h := most_calls ⟨3, 99, [], false⟩ none 0 sX p false W (clies_nil _ _ _ _) hl sX_sm
    rw [e] at h
    exact h)
  have m5 : Hid (∀ (W : World) (p : ALie), ALies W sX p → Calls Try.prog 16 #[.agg #[.int .u16 0, .int .u16 99, .slice none 0 0, .bool false], sX.v p, .bool false] W fun e w' => e = .returned (.int .u8 7) ∧ Below W.heap.size W w') := Lib.hid (fun W p hl => by
    have e : mostG (⟨0, 99, [], false⟩ : Cr) sX false = 7 := by decide +kernel
    have h := most_calls ⟨0, 99, [], false⟩ none 0 sX p false W (clies_nil _ _ _ _) hl sX_sm
    rw [e] at h
    exact h)
  have m6 : Hid (∀ (W : World) (p : ALie), ALies W sX p → Calls Try.prog 13 #[.agg #[.int .u16 1, .int .u16 99, .slice none 0 0, .bool false], sX.v p, .bool false, .int .u8 6] W fun e w' => e = .returned (.bool true) ∧ Below W.heap.size W w') := Lib.hid (fun W p hl => by
    have e : mayG (⟨1, 99, [], false⟩ : Cr) sX false 6 = true := by decide +kernel
    have h := may_calls ⟨1, 99, [], false⟩ none 0 sX p false 6 W (clies_nil _ _ _ _) hl sX_sm (by omega)
    rw [e] at h
    exact h)
  have m7 : Hid (∀ (W : World) (p : ALie), ALies W sX p → Calls Try.prog 13 #[.agg #[.int .u16 1, .int .u16 99, .slice none 0 0, .bool false], sX.v p, .bool false, .int .u8 7] W fun e w' => e = .returned (.bool false) ∧ Below W.heap.size W w') := Lib.hid (fun W p hl => by
    have e : mayG (⟨1, 99, [], false⟩ : Cr) sX false 7 = false := by decide +kernel
    have h := may_calls ⟨1, 99, [], false⟩ none 0 sX p false 7 W (clies_nil _ _ _ _) hl sX_sm (by omega)
    rw [e] at h
    exact h)
  have m8 : Hid (∀ W : World, Calls Try.prog 11 #[.agg #[.int .u16 0, .int .u16 5, .slice none 0 0, .bool false], .int .u16 5] W fun e w' => e = .returned (.bool true) ∧ Below W.heap.size W w') := Lib.hid (fun W => in_calls ⟨0, 5, [], false⟩ none 0 5 W (clies_nil _ _ _ _))
  have m9 : Hid (∀ W : World, Calls Try.prog 10 #[.agg #[.int .u16 0, .int .u16 0, .slice none 0 0, .bool false]] W fun e w' => e = .returned (.int .i64 0) ∧ Below W.heap.size W w') := Lib.hid (fun W => gcheck_calls ⟨0, 0, [], false⟩ none 0 W (by simp))
  have hs := sample_calls w
  go_enter Try.func9, Try.ntmps9
  go_wp2_with (fail)
  refine hs.mono ?_
  rintro e w0 ⟨p, rfl, hl, hb⟩
  clear hs
  obtain ⟨C, hC⟩ : ∃ C, C = sX.c p := ⟨_, rfl⟩
  have hone : C.all (·.oneCell') = true := by rw [hC]; exact c_one sX p
  have hsz : (Try.prog.info? 31).map (·.size) = some C.size := by rw [hC]; exact c_size sX p
  have hold : (zAt : Array Value).size = C.size := by rw [hC]; rfl
  have HZn := Lib.hid (heap_alloc_new w0 (.cells zAt 31))
  obtain ⟨V, hU⟩ : ∃ V, V = (w0.alloc (.cells zAt 31)).setRow w0.heap.size C := ⟨_, rfl⟩
  have bu : Below w0.heap.size w0 V := by rw [hU]; exact put_below w0 C
  obtain ⟨b, hh⟩ : ∃ b, b = w0.heap.size := ⟨_, rfl⟩
  have HL0 : Hid (Hl V b sX p) := Lib.hid (by rw [hU, hh, hC]; exact Hl.put hl)
  have HB0 := Lib.hid (hb.trans (bu.mono hb.size))
  have HSZ := Lib.hid hsz
  have HOLD := Lib.hid hold
  have HONE := Lib.hid hone
  rw [show sX.v p = .agg C by rw [hC]]
  have HV : Hid (sX.v p = .agg C) := Lib.hid (by rw [hC])
  clear hC bu hl hb hsz hold hone
  go_upto_region 2 with (first
    | (refine wpList_store_rowTo rfl 31 (.tmp 1) (.tmp 2) rfl rfl w0.heap.size C rfl rfl 31 _ HZn.out HSZ.out HOLD.out HONE.out ?_; rw [← hU]))
  clear hU HZn HSZ HOLD HONE
  rw [← hh, ← HV.out]
  clear hh HV
  go_wp2_with (refine wpList_load_part rfl 31 (.tmp 1) rfl b 0 rfl (sX.c p).toList _ HL0.out.bt.bt0 Try.underlying31 rfl attr_size (sX.v p) rfl ?_)
  refine (m0.out V p HL0.out.li).mono ?_
  rintro e w1 ⟨rfl, hb⟩
  have HL1 := Lib.hid (HL0.out.on hb)
  have HB1 := Lib.hid (HB0.out.trans (hb.mono HB0.out.size))
  clear hb HL0 HB0 m0
  go_wp2_with (refine wpList_load_part rfl 31 (.tmp 1) rfl b 0 rfl (sX.c p).toList _ HL1.out.bt.bt0 Try.underlying31 rfl attr_size (sX.v p) rfl ?_)
  refine (m1.out w1 p HL1.out.li).mono ?_
  rintro e w2 ⟨rfl, hb⟩
  have HL2 := Lib.hid (HL1.out.on hb)
  have HB2 := Lib.hid (HB1.out.trans (hb.mono HB1.out.size))
  clear hb HL1 HB1 m1
  go_wp2_with (refine wpList_load_part rfl 31 (.tmp 1) rfl b 0 rfl (sX.c p).toList _ HL2.out.bt.bt0 Try.underlying31 rfl attr_size (sX.v p) rfl ?_)
  refine (m2.out w2 p HL2.out.li).mono ?_
  rintro e w3 ⟨rfl, hb⟩
  have HL3 := Lib.hid (HL2.out.on hb)
  have HB3 := Lib.hid (HB2.out.trans (hb.mono HB2.out.size))
  clear hb HL2 HB2 m2
  have hbA : Below w3.heap.size w3 (w3.alloc (.cells #[.int .u16 20] 22)) := (Below.refl _ _).alloc (Nat.le_refl _) _
  have HLA := Lib.hid (HL3.out.on hbA)
  have HBA := Lib.hid (HB3.out.trans (hbA.mono HB3.out.size))
  have HCA : Hid (Cel (w3.alloc (.cells #[.int .u16 20] 22)) (some ⟨w3.heap.size, 0, none⟩) (hv [20])) := Lib.hid (cel_row (heap_alloc_new w3 _) rfl)
  clear hbA
  go_wp2_with (refine wpList_load_part rfl 31 (.tmp 1) rfl b 0 rfl (sX.c p).toList _ HLA.out.bt.bt0 Try.underlying31 rfl attr_size (sX.v p) rfl ?_)
  refine (m3.out _ p _ HCA.out HLA.out.li).mono ?_
  rintro e w4 ⟨rfl, hb⟩
  have HL4 := Lib.hid (HLA.out.on hb)
  have HB4 := Lib.hid (HBA.out.trans (hb.mono HBA.out.size))
  clear hb HLA HBA m3
  go_wp2_with (refine wpList_load_part rfl 31 (.tmp 1) rfl b 0 rfl (sX.c p).toList _ HL4.out.bt.bt0 Try.underlying31 rfl attr_size (sX.v p) rfl ?_)
  refine (m4.out w4 p HL4.out.li).mono ?_
  rintro e w5 ⟨rfl, hb⟩
  have HL5 := Lib.hid (HL4.out.on hb)
  have HB5 := Lib.hid (HB4.out.trans (hb.mono HB4.out.size))
  clear hb HL4 HB4 m4
  go_wp2_with (refine wpList_load_part rfl 31 (.tmp 1) rfl b 0 rfl (sX.c p).toList _ HL5.out.bt.bt0 Try.underlying31 rfl attr_size (sX.v p) rfl ?_)
  refine (m5.out w5 p HL5.out.li).mono ?_
  rintro e w6 ⟨rfl, hb⟩
  have HL6 := Lib.hid (HL5.out.on hb)
  have HB6 := Lib.hid (HB5.out.trans (hb.mono HB5.out.size))
  clear hb HL5 HB5 m5
  go_wp2_with (refine wpList_load_part rfl 31 (.tmp 1) rfl b 0 rfl (sX.c p).toList _ HL6.out.bt.bt0 Try.underlying31 rfl attr_size (sX.v p) rfl ?_)
  refine (m6.out w6 p HL6.out.li).mono ?_
  rintro e w7 ⟨rfl, hb⟩
  have HL7 := Lib.hid (HL6.out.on hb)
  have HB7 := Lib.hid (HB6.out.trans (hb.mono HB6.out.size))
  clear hb HL6 HB6 m6
  go_wp2_with (refine wpList_load_part rfl 31 (.tmp 1) rfl b 0 rfl (sX.c p).toList _ HL7.out.bt.bt0 Try.underlying31 rfl attr_size (sX.v p) rfl ?_)
  refine (m7.out w7 p HL7.out.li).mono ?_
  rintro e w8 ⟨rfl, hb⟩
  have HL8 := Lib.hid (HL7.out.on hb)
  have HB8 := Lib.hid (HB7.out.trans (hb.mono HB7.out.size))
  clear hb HL7 HB7 m7
  go_wp2_with (fail)
  refine (m8.out w8).mono ?_
  rintro e w9 ⟨rfl, hb⟩
  have HL9 := Lib.hid (HL8.out.on hb)
  have HB9 := Lib.hid (HB8.out.trans (hb.mono HB8.out.size))
  clear hb HL8 HB8 m8
  go_wp2_with (fail)
  refine (m9.out w9).mono ?_
  rintro e w10 ⟨rfl, hb⟩
  have HL10 := Lib.hid (HL9.out.on hb)
  have HB10 := Lib.hid (HB9.out.trans (hb.mono HB9.out.size))
  clear hb HL9 HB9 m9
  go_wp2_with (fail)
  go_ret
  exact ⟨rfl, HB10.out⟩
end Go.Proofs.Ytejhodjbgablaaa
