/- The document's fields; its named ones. -/
import Derived.Test.YtlejmpinfbmccaaGreatDoorWordT
import Derived.Test.YtlejmpinfbmccaaGreatDoorTapeR
set_option linter.unusedSimpArgs false
set_option linter.unusedVariables false
set_option linter.unusedSimpArgs false
set_option linter.unusedVariables false
namespace Go.Proofs.YtlejmpinfbmccaaGreatDoor
open Go.RowKit WordMath
theorem field_calls (v a n : Nat) (w : World) (hv : v < 18446744073709551616) (h1 : 1 ≤ n) (h : a + n ≤ 64) :
    Calls Tryz.prog 70 #[.int .u64 (v : Nat), .int .i64 (a : Nat), .int .i64 (n : Nat)] w fun e w' => e = .returned (.int .u64 (fld v a n : Nat)) ∧ w' = w := by
  have hp : isFld (a : Int) (n : Int) := ⟨by omega, by omega, by omega⟩
  have c := refget_calls (v : Int) (a : Int) (n : Int) w (by omega) (by omega) (by omega)
  rw [getV_yes hp, getE_yes hp] at c
  simp only [Int.toNat_natCast] at c
  have HC := Lib.hid c
  clear c hp
  generalize fld v a n = f at *
  go_enter Tryz.func70, Tryz.ntmps70
  go_wp2_with (fail)
  refine HC.out.mono ?_
  rintro e w' ⟨rfl, rfl⟩
  go_wp2_with (fail)
  go_ret
  exact ⟨rfl, rfl⟩
set_option maxRecDepth 100000 in
set_option maxHeartbeats 2000000 in
theorem who_calls (A : Option Addr) (l : List Nat) (c g n : Nat) (w : World) (hr : Row w A l) (hw : Wd l) (hg : g + 2 ≤ l.length) (hlen : l.length ≤ 1099511627776) (hn : n ≤ 15) :
    Calls Tryz.prog 95 #[.slice A l.length c, .int .i64 (g : Nat), .int .u64 (n : Nat)] w fun e w' => ∃ B cB, e = .returned (.slice B (min n 4 : Nat) cB) ∧ Mine w w' B (min n 4) cB (whoL l g n) ∧ Below w.heap.size w w' := by
  obtain ⟨i0, hi0, hz0, hs0, hb0⟩ := info_parts named_info
  have HI := Lib.hid hi0
  have HZ := Lib.hid hz0
  have HS := Lib.hid hs0
  have HB := Lib.hid hb0
  have HW := Lib.hid hw
  have HR := Lib.hid hr
  clear hi0 hz0 hs0 hb0 hw hr
  go_enter Tryz.func95, Tryz.ntmps95
  go_wp2_with (fail)
  go_loopw [7, 8, 9] (fun v i _ wr => ∃ k : Nat, i = .int .i64 k ∧ k ≤ min n 4 ∧ (∃ B cB, v = .slice B k cB ∧ Hid (Mine w wr B k cB (whoL l g k))) ∧ Hid (Below w.heap.size w wr)) (fun _ i _ _ => 4 - (intOf i).toNat)
  case atStart => exact ⟨0, rfl, by omega, ⟨none, 0, rfl, Lib.hid ⟨OwnR.nil _ _ _, fun ad h => by cases h⟩⟩, Lib.hid (Below.refl _ _)⟩
  case round =>
    obtain ⟨k, rfl, hk, ⟨B, cB, rfl, hM⟩, hO⟩ := hrel
    by_cases hkm : k < min n 4
    · have hkn : (k : Int) < (n : Int) := by omega
      have hk4 : (k : Int) < 4 := by omega
      have hd1 : decide ((k : Int) < (n : Int)) = true := decide_eq_true hkn
      have hd2 : decide ((k : Int) < 4) = true := decide_eq_true hk4
      have hi : g + k / 2 < l.length := by omega
      have hi' : (g : Int) + (k : Int) / 2 < (l.length : Int) := by omega
      obtain ⟨ad, rfl, _, hcs⟩ := HR.out.below hO.out (by omega)
      have hcl := hcs (g + k / 2) hi
      have hwd := HW.out (g + k / 2)
      have hcf := fun u => field_calls (l.getD (g + k / 2) 0) (32 * (k % 2)) 32 u hwd (by decide) (by omega)
      have hwk : whoK l g k = ⟨fld (l.getD (g + k / 2) 0) (32 * (k % 2)) 32 % 65536, fld (l.getD (g + k / 2) 0) (32 * (k % 2)) 32 / 65536 % 256⟩ := rfl
      have hf32 := fld_lt (l.getD (g + k / 2) 0) (32 * (k % 2)) 32
      have HWK := Lib.hid hwk
      have e1 : ((32 * (k % 2) : Nat) : Int) = 32 * ((k : Int) % 2) := by omega
      simp only [e1] at hcf
      clear hcs hwk e1
      generalize l.getD (g + k / 2) 0 = xw at *
      generalize fld xw (32 * (k % 2)) 32 = V at *
      have HCF := Lib.hid hcf
      clear hcf
      go_wp2_with (fail)
      refine (HCF.out _).mono ?_
      rintro e w3 ⟨rfl, rfl⟩
      clear hcl HCF
      have HGE := Lib.hid hM.out.2
      have HO2 : Hid (OwnR (w3.alloc (.cells #[.int .u16 ((V : Int) % 65536), .int .u8 ((V : Int) / 65536 % 256)] 54)) 54 2 B k cB (nv (whoL l g k))) := Lib.hid (hM.out.1.keep fun ad e => Below.heap_alloc _ _ _ (hM.out.1.lt ad e))
      have HNW : Hid (∀ j u, ([.int .u16 ((V : Int) % 65536), .int .u8 ((V : Int) / 65536 % 256)] : List Value)[j]? = some u → (w3.alloc (.cells #[.int .u16 ((V : Int) % 65536), .int .u8 ((V : Int) / 65536 % 256)] 54)).cell? ((⟨w3.heap.size, 0, none⟩ : Addr).add j) = some u) := Lib.hid (fun j u hu => by
        rw [add_zero_block, cell_of_row _ _ _ _ _ _ (heap_alloc_new w3 _)]
        simpa using hu)
      have hone : ∀ u ∈ ([.int .u16 ((V : Int) % 65536), .int .u8 ((V : Int) / 65536 % 256)] : List Value), u.oneCell' = true := by intro u hu; simp at hu; rcases hu with rfl | rfl <;> rfl
      go_wp2_with (at_builtin; refine wpList_append_r rfl (.tmp 31) (.tmp 40) 23 rfl 54 i0 _ 2 4 Tryz.underlying23 HI.out HZ.out HS.out HB.out rfl B k cB (nv (whoL l g k)) rfl HO2.out ⟨w3.heap.size, 0, none⟩ 1 1 [.int .u16 ((V : Int) % 65536), .int .u8 ((V : Int) / 65536 % 256)] rfl rfl HNW.out hone (by decide) (by unfold maxLen; omega) (by omega) ?_; intro gA c1 w4 hA hgr hor)
      have hOn : Only (fun j => w.heap.size ≤ j) w3 w4 := ((Only.refl _ w3).alloc _).grown hgr (fun j e => .inl (by
        cases B with
        | none => cases e
        | some ad => injection e with e; subst e; exact HGE.out ad rfl))
      have HO' : Hid (Below w.heap.size w w4) := Lib.hid (hO.out.trans (hOn.below hO.out.size (fun i hi => hi)))
      have hst : whoL l g (k + 1) = whoL l g k ++ [whoK l g k] := by
        unfold whoL
        rw [show min (k + 1) 4 = k + 1 by omega, show min k 4 = k by omega, List.range_succ, List.map_append]
        rfl
      have e0 : ((V % 65536 : Nat) : Int) = (V : Int) % 65536 := by omega
      have e2 : ((V / 65536 % 256 : Nat) : Int) = (V : Int) / 65536 % 256 := by omega
      have HM' : Hid (Mine w w4 (some ⟨gA, 0, none⟩) (k + 1) c1 (whoL l g (k + 1))) := Lib.hid ⟨by
        rw [hst, HWK.out, nv_append]
        show OwnR w4 54 2 (some ⟨gA, 0, none⟩) (k + 1) c1 (nv (whoL l g k) ++ [.int .u16 ((V % 65536 : Nat) : Int), .int .u8 ((V / 65536 % 256 : Nat) : Int)])
        rw [e0, e2]
        exact hA, fun ad e => by
          injection e with e
          subst e
          rcases hor with e | e
          · exact HGE.out _ e
          · have := hO.out.size; simp at e; show w.heap.size ≤ gA; omega⟩
      clear hA hgr hor hOn hst e0 e2
      go_roundw
      case rel => exact ⟨k + 1, by go_num, by omega, ⟨some ⟨gA, 0, none⟩, c1, rfl, HM'⟩, HO'⟩
      case measure => simp [intOf]; omega
    · obtain rfl : k = min n 4 := by omega
      have HE : Hid (whoL l g (min n 4) = whoL l g n) := Lib.hid (by unfold whoL; rw [show min (min n 4) 4 = min n 4 by omega])
      rw [HE.out] at hM
      by_cases h4 : n < 4
      · obtain ⟨m, hm⟩ : ∃ m, m = min n 4 := ⟨_, rfl⟩
        have hmn : m = n := by omega
        rw [← hm] at hM ⊢
        have HM := Lib.hid hm
        clear hk hkm hm
        subst hmn
        go_wp2_with (fail)
        go_ret
        have e4 : min m 4 = m := by omega
        exact ⟨B, cB, by rw [e4]; rfl, by rw [e4]; exact hM.out, hO.out⟩
      · obtain ⟨m, hm⟩ : ∃ m, m = min n 4 := ⟨_, rfl⟩
        have hmn : m = 4 := by omega
        rw [← hm] at hM ⊢
        clear hk hkm hm
        subst hmn
        by_cases h5 : n = 4
        · subst h5
          go_wp2_with (fail)
          go_ret
          exact ⟨B, cB, rfl, hM.out, hO.out⟩
        · have hd1 : decide ((4 : Int) < (n : Int)) = true := by rw [decide_eq_true_eq]; omega
          go_wp2_with (fail)
          go_ret
          have e4 : min n 4 = 4 := by omega
          exact ⟨B, cB, by rw [e4]; rfl, by rw [e4]; exact hM.out, hO.out⟩
end Go.Proofs.YtlejmpinfbmccaaGreatDoor
