/- Which perms are for the process. -/
import Derived.Test.YtejhodjbgablaaaGc
import Derived.Great.BuildSlice
set_option linter.unusedSimpArgs false
set_option linter.unusedVariables false
namespace Go.Proofs.Ytejhodjbgablaaa
open Go.RowKit
theorem u8_info : (Try.prog.info? 5).map (fun i => (i.zero, i.size, i.bytes)) = some (some (.int .u8 0), 1, 1) := by kernel_rfl
theorem u16_info : (Try.prog.info? 22).map (fun i => (i.zero, i.size, i.bytes)) = some (some (.int .u16 0), 1, 2) := by kernel_rfl
set_option maxRecDepth 100000 in
set_option maxHeartbeats 4000000 in
theorem perms_calls (fid : FuncId) (caps : Array Value) (F : Nat → Bool) (A : Option Addr) (L : List Nm) (c m : Nat) (w : World) (h : Cel w A (nv L)) (hl : L.length ≤ 1099511627776) (hm : m < 256) (hp : ∀ p ∈ L, p.pm < 256)
    (hcf : ∀ args W, (callFunc fid args).run Try.prog W = .ok (.enter fid args) W) (hf : ∀ W (i : Nat), Below w.heap.size w W → Calls Try.prog fid (#[.int .u16 (i : Nat)] ++ caps) W fun e w' => e = .returned (.bool (F i)) ∧ Below W.heap.size W w') :
    Calls Try.prog 38 #[.slice A L.length c, .int .u8 (m : Nat), .func (.func fid) #[] caps] w fun e w' => ∃ B d, e = .returned (.slice B (permsL L m F).length d) ∧ Hid (Cel w' B (bv (permsL L m F))) ∧ Below w.heap.size w w' := by
  obtain ⟨i8, hi8, hz8, hs8, hb8⟩ := info_parts u8_info
  obtain ⟨n, hn⟩ : ∃ n, L.length = n := ⟨_, rfl⟩
  rw [hn] at hl ⊢
  have HN := Lib.hid hn
  have HC := Lib.hid h
  have HF := Lib.hid hf
  have HCF := Lib.hid hcf
  have HP8 := Lib.hid hp
  clear hn h hf hp hcf
  go_enter Try.func38, Try.ntmps38
  go_wp2_with (fail)
  go_loopw [7, 12] (fun s i wr => ∃ k : Nat, i = .int .i64 k ∧ k ≤ n ∧ (∃ B d l, s = .slice B (List.length l) d ∧ Hid (permsL (L.take k) m F = l) ∧ Hid (OwnR wr 5 1 B l.length d (bv l)) ∧ Hid (∀ ad, B = some ad → w.heap.size ≤ ad.block) ∧ l.length ≤ k) ∧ Hid (Below w.heap.size w wr)) (fun _ i _ => n - (intOf i).toNat)
  case atStart => exact ⟨0, rfl, by omega, ⟨none, 0, [], rfl, Lib.hid rfl, Lib.hid (OwnR.nil _ _ _), Lib.hid (fun ad e => by cases e), Nat.le_refl _⟩, Lib.hid (Below.refl _ _)⟩
  case round =>
    obtain ⟨k, rfl, hk, ⟨B, d, l, rfl, hT, hO, hF, hlk⟩, hB⟩ := hrel
    by_cases hkn : k < n
    · obtain ⟨b, o, rfl, hlt, hcell⟩ := (HC.out.below hB.out).nm (by rw [HN.out]; omega)
      obtain ⟨p, hp⟩ : ∃ p, L[k]? = some p := ⟨_, List.getElem?_eq_getElem (by rw [HN.out]; exact hkn)⟩
      obtain ⟨e1, e2⟩ := hcell k p hp
      have h8 := HP8.out p (List.mem_of_getElem? hp)
      have HT2 : Hid (permsL (L.take (k + 1)) m F = if F p.id then l ++ [p.pm &&& m] else l) := Lib.hid (by
        rw [List.take_add_one, hp, ← hT.out]
        exact permsL_more _ _ _ _)
      have e8 := and8 p.pm m h8 hm
      have HF1 : Hid (∀ W, Below w.heap.size w W → Calls Try.prog fid (#[.int .u16 (p.id : Nat)] ++ caps) W fun e w' => e = .returned (.bool (F p.id)) ∧ Below W.heap.size W w') := Lib.hid fun W hW => HF.out W p.id hW
      clear hp hcell
      generalize p.id = pi at *
      generalize p.pm = pp at *
      go_upto_region 5 with (fail)
      obtain ⟨V, hV⟩ : ∃ V, V = wr.alloc (.cells #[.int .u16 (pi : Nat), .int .u8 (pp : Nat)] 43) := ⟨_, rfl⟩
      rw [← hV]
      have hAB : Below wr.heap.size wr V := by rw [hV]; exact (Below.refl _ _).alloc (Nat.le_refl _) _
      have hBV : Below w.heap.size w V := hB.out.trans (hAB.mono hB.out.size)
      have hz : V.heap[wr.heap.size]? = some (.cells #[.int .u16 (pi : Nat), .int .u8 (pp : Nat)] 43 (0, 0)) := by rw [hV]; exact heap_alloc_new _ _
      obtain ⟨q0, q1⟩ := two_cells hz
      have HK := Lib.hid (HF1.out V hBV)
      have HZ := Lib.hid hz
      have HBV := Lib.hid hBV
      have HOV := Lib.hid (hO.out.keep (w' := V) fun ad e => hAB.block _ (hO.out.lt ad e))
      obtain ⟨g0, hg0⟩ : ∃ g, wr.heap.size = g := ⟨_, rfl⟩
      rw [hg0] at q0 q1 HZ ⊢
      clear e1 e2 hV hAB hBV hz hB hO HF1 hg0
      go_wp2_with (fail)
      rw [HCF.out, Oper.upon_enter]
      refine HK.out.mono ?_
      rintro e w2 ⟨rfl, hb2⟩
      have HB2 := Lib.hid (HBV.out.trans (hb2.mono HBV.out.size))
      have hlt0 := lt_of_cells HZ.out
      have hz2 : w2.heap[g0]? = some (.cells #[.int .u16 (pi : Nat), .int .u8 (pp : Nat)] 43 (0, 0)) := (hb2.block g0 hlt0).trans HZ.out
      obtain ⟨q0, q1⟩ := two_cells hz2
      have HO2 := Lib.hid (HOV.out.keep (w' := w2) fun ad e => hb2.block _ (HOV.out.lt ad e))
      obtain ⟨u, hu⟩ : ∃ u, pp &&& m = u := ⟨_, rfl⟩
      rw [hu] at e8 HT2
      clear hb2 hz2 HOV HBV HZ HK hu hlt0
      cases hFi : F pi
      case true =>
        rw [hFi] at HT2
        clear hFi
        have bA : Below w2.heap.size w2 (w2.alloc (.cells #[.int .u8 (u : Nat)] 5)) := (Below.refl _ _).alloc (Nat.le_refl _) _
        have HBA := Lib.hid (HB2.out.trans (bA.mono HB2.out.size))
        have hOA := HO2.out.keep (w' := w2.alloc (.cells #[.int .u8 (u : Nat)] 5)) fun ad e => bA.block _ (HO2.out.lt ad e)
        have hcA : ∀ j v, [Value.int .u8 (u : Nat)][j]? = some v → (w2.alloc (.cells #[.int .u8 (u : Nat)] 5)).cell? ((⟨w2.heap.size, 0, none⟩ : Addr).add j) = some v := fun j v hj => by
          rw [add_zero_block, cell_of_row _ w2.heap.size j _ 5 (0, 0) (heap_alloc_new w2 _)]
          simpa using hj
        have HBLT : Hid (∀ ad, B = some ad → ad.block < (w2.alloc (.cells #[.int .u8 (u : Nat)] 5)).heap.size) := Lib.hid (fun ad e => hOA.lt ad e)
        have HSZ : Hid (w2.heap.size < (w2.alloc (.cells #[.int .u8 (u : Nat)] 5)).heap.size) := Lib.hid (by simp)
        clear bA HO2
        go_wp2_with (at_builtin; refine wpList_append_r rfl (.tmp 20) (.tmp 25) 48 rfl 5 i8 (.int .u8 0) 1 1 Try.underlying48 hi8 hz8 hs8 hb8 rfl B l.length d (bv l) rfl hOA ⟨w2.heap.size, 0, none⟩ 1 1 [.int .u8 (u : Nat)] rfl rfl hcA (by simp [Value.oneCell']) (by omega) (by unfold maxLen; omega) (by omega) ?_; intro g2 c2 w3 hO3 hG3 hE3)
        have HO3 := Lib.hid hO3
        have HG3 := Lib.hid hG3
        have HE3 := Lib.hid hE3
        clear hO3 hG3 hE3 hcA hOA q0 q1
        go_roundw
        case rel =>
          have hbk : ∀ k, Option.map (fun (a : Addr) => a.block) B = some k → w.heap.size ≤ k := fun k hk => by
            cases B with
            | none => cases hk
            | some ad => simp only [Option.map_some, Option.some.injEq] at hk; subst hk; exact hF.out ad rfl
          refine ⟨k + 1, by go_num, by omega, ⟨some ⟨g2, 0, none⟩, c2, l ++ [u], by rw [List.length_append]; rfl, Lib.hid HT2.out, Lib.hid (by rw [bv_append, List.length_append]; exact HO3.out), Lib.hid (fun ad e => ?_), by rw [List.length_append]; simp; omega⟩, Lib.hid (HBA.out.grown HG3.out HBA.out.size hbk)⟩
          injection e with e
          subst e
          rcases HE3.out with e2 | e2
          · exact hF.out _ e2
          · show w.heap.size ≤ g2
            rw [e2]
            exact HBA.out.size
        case measure => simp [intOf]; omega
      case false =>
        rw [hFi] at HT2
        clear hFi
        go_wp2_with (fail)
        go_roundw
        case rel => exact ⟨k + 1, by go_num, by omega, ⟨B, d, l, rfl, Lib.hid HT2.out, HO2, hF, by omega⟩, HB2⟩
        case measure => simp [intOf]; omega
    · obtain rfl : k = n := by omega
      have HG : Hid (permsL L m F = l) := Lib.hid (by have := hT.out; rwa [List.take_of_length_le (by rw [HN.out]; exact Nat.le_refl _)] at this)
      go_wp2_with (fail)
      go_ret
      exact ⟨B, d, by rw [HG.out]; rfl, Lib.hid (by rw [HG.out]; exact hO.out.cel), hB.out⟩
end Go.Proofs.Ytejhodjbgablaaa
