/- Rows of keys and values: slices.Equal, slices.Clone. -/
import Derived.Test.YtlejmpinfbmccaaGreatDoorAv
import Derived.Test.YtlejmpinfbmccaaGreatDoorAcT
set_option linter.unusedSimpArgs false
set_option linter.unusedVariables false
set_option linter.unusedSimpArgs false
set_option linter.unusedVariables false
namespace Go.Proofs.YtlejmpinfbmccaaGreatDoor
open Go.RowKit
set_option maxRecDepth 100000 in
theorem equalX_calls (A B : Option Addr) (L M : List Xt) (c d : Nat) (w : World) (ha : Cel w A (xv L)) (hb : Cel w B (xv M)) (hlen : L.length ≤ 1099511627776) (hlen2 : M.length ≤ 1099511627776) :
    Calls Tryz.prog 37 #[.slice A L.length c, .slice B M.length d] w (Q (.bool (xrowsB L M)) w) := by
  by_cases hn : L.length = M.length
  · obtain ⟨n, hLn⟩ : ∃ n, L.length = n := ⟨_, rfl⟩
    have hMn : M.length = n := by omega
    have HL := Lib.hid hLn
    have HM := Lib.hid hMn
    rw [hLn, hMn]
    rw [hLn] at hlen
    clear hn hLn hMn hlen2
    go_enter Tryz.func37, Tryz.ntmps37
    go_wp2_with (fail)
    go_loopw [13] (fun i wr => ∃ k : Nat, i = .int .i64 k ∧ k ≤ n ∧ Hid (AlikeX L M k) ∧ ∃ q, wr = w.drewN q) (fun i _ => n - (intOf i).toNat)
    case atStart => exact ⟨0, rfl, by omega, Lib.hid (fun j hj => absurd hj (by omega)), 0, rfl⟩
    case round =>
      obtain ⟨k, rfl, hk, hs, q, rfl⟩ := hrel
      by_cases h1 : k < n
      · obtain ⟨b1, o1, rfl, _, hca⟩ := ha.xt (by rw [HL.out]; omega)
        obtain ⟨b2, o2, rfl, _, hcb⟩ := hb.xt (by rw [HM.out]; omega)
        obtain ⟨p, hp⟩ : ∃ p, L[k]? = some p := ⟨_, List.getElem?_eq_getElem (by rw [HL.out]; exact h1)⟩
        obtain ⟨r, hr⟩ : ∃ r, M[k]? = some r := ⟨_, List.getElem?_eq_getElem (by rw [HM.out]; exact h1)⟩
        obtain ⟨e1, e2⟩ := hca k p hp
        obtain ⟨e3, e4⟩ := hcb k r hr
        have HP := Lib.hid hp
        have HR := Lib.hid hr
        clear hca hcb hp hr
        by_cases he : p = r
        · subst he
          have hE := fun w => eqXt p.key p.val p.key p.val w
          rw [eqX1_yes] at hE
          have hs' := Lib.hid (hs.out.more (HP.out.trans HR.out.symm))
          go_wp2_with (fail)
          go_quiet (fail)
          go_wp2_with (fail)
          go_roundw
          case rel => exact ⟨k + 1, by go_num, by omega, hs', _, rfl⟩
          case measure => simp [intOf]; omega
        · have hE := fun w => eqXt p.key p.val r.key r.val w
          rw [eqX1_no he] at hE
          have HV := Lib.hid (xrowsB_at HP.out HR.out he)
          clear he
          go_wp2_with (fail)
          go_quiet (fail)
          go_wp2_with (fail)
          go_ret
          rw [HV.out, World.drewN_drewN]
          exact Q.of
      · obtain rfl : k = n := by omega
        have HV : Hid (xrowsB L M = true) := Lib.hid (xrowsB_iff.2 (by have h := hs.out; rw [← HL.out] at h; exact h.eq (HL.out.trans HM.out.symm)))
        go_wp2_with (fail)
        go_ret
        rw [HV.out]
        exact Q.of
  · have HV : Hid (xrowsB L M = false) := Lib.hid (xrowsB_no (by rintro rfl; exact hn rfl))
    have hne : ((L.length : Int) == (M.length : Nat)) = false := by rw [beq_eq_false_iff_ne]; omega
    go_enter Tryz.func37, Tryz.ntmps37
    go_wp2_with (fail)
    go_ret
    rw [HV.out]
    exact Q.self
set_option maxRecDepth 100000 in
theorem cloneX_calls (w : World) (A : Option Addr) (L : List Xt) (c : Nat) (hr : Cel w A (xv L)) (hm : L.length ≤ 1099511627776) :
    Calls Tryz.prog 39 #[.slice A L.length c] w fun e w' => ∃ B d, e = .returned (.slice B L.length d) ∧ MineX w w' B L.length d L ∧ Below w.heap.size w w' := by
  obtain ⟨i0, hi0, hz0, hs0, hb0⟩ := info_parts xattr_info
  have HI := Lib.hid hi0
  have HZ := Lib.hid hz0
  have HS := Lib.hid hs0
  have HB := Lib.hid hb0
  clear hi0 hz0 hs0 hb0
  have heq := fun w A n c => Lib.run_eql_slice_nil (P := Tryz.prog) w 26 52 A n c 0 0 Tryz.underlying26
  rcases A with _ | ad
  · have h0 : L = [] := by
      cases L with
      | nil => rfl
      | cons p r => obtain ⟨ad, h, _⟩ := hr (by simp [xv]); cases h
    subst h0
    go_enter Tryz.func39, Tryz.ntmps39
    go_wp2
    go_ret
    exact ⟨none, 0, rfl, ⟨OwnR.nil _ _ _, fun ad h => by cases h⟩, Below.refl _ _⟩
  · go_enter Tryz.func39, Tryz.ntmps39
    go_wp2_with (at_builtin; refine wpList_clone_r rfl (.tmp 5) (.tmp 6) 26 rfl 52 i0 _ 2 32 Tryz.underlying26 HI.out HZ.out HS.out HB.out rfl (by decide) w.heap.size _ (heap_alloc_new _ _) (some ad) L.length c (xv L) (hr.below ((Below.refl _ _).alloc (Nat.le_refl _) _)) (xv_length L) (xv_one L) hm (by decide) rfl rfl ?_; intro g c' w' hown hgr hg)
    go_ret
    exact ⟨_, _, rfl, ⟨hown, fun ad' e => by injection e with e; subst e; show w.heap.size ≤ g; simp at hg; omega⟩, ((Below.refl _ _).alloc (Nat.le_refl _) _).grown hgr (by simp) (fun k e => by injection e with e; omega)⟩
end Go.Proofs.YtlejmpinfbmccaaGreatDoor
